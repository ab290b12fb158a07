/- Texts of this claim, one behind the other. -/
import Derived.Test.YtflfcjbgkpfgkaaDoorM14TapeRecovers
import Derived.Test.YtflfcjbgkpfgkaaDoorM13TapeRecovers
import Derived.Test.YtflfcjbgkpfgkaaDoorM10TapeRecovers
/- The contract of wire.readMessage. -/
namespace Go.Proofs.YtflfcjbgkpfgkaaDoor
open Go.ChangeShapes Go.WideShapes Go.ChangeAt Go.RowKit
set_option linter.unusedVariables false

/-- A box of n cells. -/
structure BoxN (u : World) (b n : Nat) (vs : List Value) : Prop where
  len : vs.length = n
  lt : b < u.heap.size
  c : ∀ i, i < n → u.cell? ⟨b, i, none⟩ = some (vs.getD i (.bool false)) ∧ u.frozen? ⟨b, i, none⟩ = false

theorem BoxN.grown {u u' : World} {b n : Nat} {vs : List Value} {row : Option Nat} (h : BoxN u b n vs) (hg : u.grownBy u' row) (hne : some b ≠ row) : BoxN u' b n vs := by
  have e := hg.block b h.lt hne
  refine ⟨h.len, Nat.lt_of_lt_of_le h.lt hg.size, fun i hi => ⟨?_, ?_⟩⟩
  · rw [World.cell?_of_block (a := ⟨b, i, none⟩) e]; exact (h.c i hi).1
  · rw [World.frozen?_of_block (a := ⟨b, i, none⟩) e]; exact (h.c i hi).2
theorem BoxN.set {u : World} {b n : Nat} {vs : List Value} (h : BoxN u b n vs) (k : Nat) (hk : k < n) (v : Value) : BoxN (u.setCell ⟨b, k, none⟩ v) b n (vs.set k v) := by
  refine ⟨by simp [h.len], by simpa using h.lt, fun i hi => ⟨?_, ?_⟩⟩
  · by_cases hik : k = i
    · subst hik
      rw [World.cell?_setCell_same u ⟨b, k, none⟩ _ (h.c k hk).1]
      simp [List.getD, h.len, hk]
    · rw [rp_ne hik, (h.c i hi).1]
      simp [List.getD, hik]
  · rw [rp_frozen]; exact (h.c i hi).2
theorem BoxN.far {u : World} {b n c k : Nat} {vs : List Value} {v : Value} (h : BoxN u b n vs) (hne : b ≠ c) : BoxN (u.setCell ⟨c, k, none⟩ v) b n vs := by
  have e : (u.setCell ⟨c, k, none⟩ v).heap[b]? = u.heap[b]? := Below.heap_setCell u _ _ b hne
  refine ⟨h.len, by simpa using h.lt, fun i hi => ⟨?_, ?_⟩⟩
  · rw [World.cell?_of_block (a := ⟨b, i, none⟩) e]; exact (h.c i hi).1
  · rw [World.frozen?_of_block (a := ⟨b, i, none⟩) e]; exact (h.c i hi).2

/-- All that readMessage has in memory. -/
structure RMAt (w V : World) (M R L : Nat) (vs : List Value) (st : RS) : Prop where
  mb : BoxN V M 12 vs
  rb : BoxN V w.heap.size 12 [.int .i64 0, .int .i64 0, .int .i64 0, .int .i64 0, .int .i64 0, .int .i64 0, .int .i64 0, .int .i64 0, .int .i64 0, .int .i64 0, .bool false, .int .i64 0]
  rd : RdTo V R L st
  gr : w.grownBy V (some R)
  mlt : w.heap.size < M
  rlt : R < w.heap.size

theorem RMAt.set {w V : World} {M R L : Nat} {vs : List Value} {st : RS} (h : RMAt w V M R L vs st) (k : Nat) (hk : k < 12) (v : Value) : RMAt w (V.setCell ⟨M, k, none⟩ v) M R L (vs.set k v) st := by
  have hm := h.mlt
  have hr := h.rlt
  refine ⟨h.mb.set k hk v, h.rb.far (by omega), ?_, ?_, hm, hr⟩
  · refine h.rd.grown (grown_set (R := M) (grownR_refl V (some M))) (fun q hq => ?_)
    have := h.rd.hL
    simp at hq
    omega
  · have hg := h.gr
    refine ⟨hg.os, hg.tape, hg.output, by simpa using hg.size, fun q hq hne => ?_⟩
    rw [Below.heap_setCell V _ _ q (by show q ≠ M; omega)]
    exact hg.block q hq hne
theorem RMAt.call {w V V' : World} {M R L : Nat} {vs : List Value} {st st' : RS} (h : RMAt w V M R L vs st) (hg : V.grownBy V' (some R)) (hr' : RdTo V' R L st') : RMAt w V' M R L vs st' := by
  have hm := h.mlt
  have hr := h.rlt
  exact ⟨h.mb.grown hg (by simp; omega), h.rb.grown hg (by simp; omega), hr', grownR_trans h.gr hg, hm, hr⟩
theorem RMAt.alloc {w V : World} {M R L : Nat} {vs : List Value} {st : RS} (h : RMAt w V M R L vs st) (ob : Obj) : RMAt w (V.alloc ob) M R L vs st := by
  have ha := World.grownBy_alloc V ob none
  have hg := h.gr
  exact ⟨h.mb.grown ha (by simp), h.rb.grown ha (by simp), h.rd.grown ha (fun q hq => by cases hq), ⟨ha.os.trans hg.os, ha.tape.trans hg.tape, ha.output.trans hg.output, Nat.le_trans hg.size ha.size, fun q hq hne => (ha.block q (Nat.lt_of_lt_of_le hq hg.size) (by simp)).trans (hg.block q hq hne)⟩, h.mlt, h.rlt⟩

set_option maxRecDepth 100000 in
set_option maxHeartbeats 4000000 in
theorem readMessage_any (R L : Nat) (st : RS) (w : World) (h : RdTo w R L st) (hm : HasAt w 0 mHas) (hwd : WidsAt w) (hgm : 0 < L) (hgw : 2 < L) (hkb : 0 ≤ (st.kind 10).1) :
    Calls Tryd.prog 24 #[.pointer (some ⟨R, 0, none⟩)] w fun e w' => ∃ v, e = .returned v ∧ v = (decMsgRS st).1.val ∧ RdTo w' R L (decMsgRS st).2 ∧ w.grownBy w' (some R) := by
  have hLR := h.hL
  have hRw := h.lt
  have hk9 : (st.kind 10).1 < 10 := by
    unfold RS.kind
    split
    · exact (by decide : (0 : Int) < 10)
    · omega
  have hK := fun w' hh => kindR_any R L st 10 w' hh (by omega)
  obtain ⟨k, r1, e1⟩ : ∃ n r, st.kind 10 = (n, r) := ⟨_, _, rfl⟩
  obtain ⟨n2, r2, e2⟩ : ∃ n r, r1.num 1 = (n, r) := ⟨_, _, rfl⟩
  obtain ⟨n3, r3, e3⟩ : ∃ n r, r2.num 1 = (n, r) := ⟨_, _, rfl⟩
  obtain ⟨n4, r4, e4⟩ : ∃ n r, r3.num 1 = (n, r) := ⟨_, _, rfl⟩
  obtain ⟨n5, r5, e5⟩ : ∃ n r, r4.num 3 = (n, r) := ⟨_, _, rfl⟩
  have hN2 := fun w' hh => number_any R L r1 1 w' hh (by omega)
  have hN3 := fun w' hh => number_any R L r2 1 w' hh (by omega)
  have hT := fun w' hh hr => txnRd_any R L r3 w' hh hr
  rw [e1] at hK hkb hk9
  rw [e2] at hN2
  rw [e3] at hN3
  rw [e4] at hT
  simp only at hK hN2 hN3 hT hkb hk9
  rw [e5] at hT
  simp only at hT
  obtain ⟨kn, rfl⟩ : ∃ kn : Nat, k = kn := ⟨k.toNat, by omega⟩
  have k10 : kn < 10 := by omega
  have k9 : (kn : Int) < 10 := by omega
  have ED : Hid (∀ d, decParts 0 (mHas.getD kn []) widL r5 = d → decMsgRS st = (⟨(kn : Int), n2, n3, n4, n5, d.1.getD 0 0, d.1.getD 1 0, d.1.getD 2 0, d.1.getD 3 0, d.1.getD 4 0, decide (d.1.getD 5 0 = 1), d.1.getD 6 0⟩, d.2)) := by
    show ∀ d, _ → _
    intro d hd
    rw [← hd]
    unfold decMsgRS
    rw [e1]
    simp only [e2, e3, e4, e5, mHasOf, Int.toNat_natCast]
  clear e1 e2 e3 e4 e5
  obtain ⟨W, hW⟩ : ∃ W : World, W = w.alloc (.cells #[.int .i64 0, .int .i64 0, .int .i64 0, .int .i64 0, .int .i64 0, .int .i64 0, .int .i64 0, .int .i64 0, .int .i64 0, .int .i64 0, .bool false, .int .i64 0] 30) := ⟨_, rfl⟩
  have hG : w.grownBy W none := by rw [hW]; exact World.grownBy_alloc w _ none
  have zW : W.heap.size = w.heap.size + 1 := by rw [hW]; simp
  have rbW : BoxN W w.heap.size 12 [.int .i64 0, .int .i64 0, .int .i64 0, .int .i64 0, .int .i64 0, .int .i64 0, .int .i64 0, .int .i64 0, .int .i64 0, .int .i64 0, .bool false, .int .i64 0] := by
    refine ⟨rfl, by omega, fun i hi => ?_⟩
    rw [hW]
    rcases (by omega : i = 0 ∨ i = 1 ∨ i = 2 ∨ i = 3 ∨ i = 4 ∨ i = 5 ∨ i = 6 ∨ i = 7 ∨ i = 8 ∨ i = 9 ∨ i = 10 ∨ i = 11) with rfl | rfl | rfl | rfl | rfl | rfl | rfl | rfl | rfl | rfl | rfl | rfl <;> exact ⟨by go_simp; first | done | rfl, by go_simp⟩
  have hRW := h.grown hG (fun q hq => by cases hq)
  go_enter Tryd.func24, Tryd.ntmps24
  go_upto_region 1 with (fail)
  rw [← hW]
  clear hW
  go_upto_region 2 with (go_at_call 47; refine (hK _ hRW).mono ?_; rintro e w1 ⟨rfl, h1, hg1⟩)
  obtain ⟨V1, hV1⟩ : ∃ V : World, V = w1.alloc (.cells #[.int .i64 (kn : Int), .int .i64 0, .int .i64 0, .int .i64 0, .int .i64 0, .int .i64 0, .int .i64 0, .int .i64 0, .int .i64 0, .int .i64 0, .bool false, .int .i64 0] 30) := ⟨_, rfl⟩
  have A1 : RMAt w V1 w1.heap.size R L [.int .i64 (kn : Int), .int .i64 0, .int .i64 0, .int .i64 0, .int .i64 0, .int .i64 0, .int .i64 0, .int .i64 0, .int .i64 0, .int .i64 0, .bool false, .int .i64 0] r1 := by
    have ha := World.grownBy_alloc w1 (.cells #[.int .i64 (kn : Int), .int .i64 0, .int .i64 0, .int .i64 0, .int .i64 0, .int .i64 0, .int .i64 0, .int .i64 0, .int .i64 0, .int .i64 0, .bool false, .int .i64 0] 30) none
    have s1 := hg1.size
    refine ⟨⟨rfl, by rw [hV1]; simp, fun i hi => ?_⟩, ?_, ?_, ?_, by omega, hRw⟩
    · rw [hV1]
      rcases (by omega : i = 0 ∨ i = 1 ∨ i = 2 ∨ i = 3 ∨ i = 4 ∨ i = 5 ∨ i = 6 ∨ i = 7 ∨ i = 8 ∨ i = 9 ∨ i = 10 ∨ i = 11) with rfl | rfl | rfl | rfl | rfl | rfl | rfl | rfl | rfl | rfl | rfl | rfl <;> exact ⟨by go_simp; first | done | rfl, by go_simp⟩
    · rw [hV1]; exact (rbW.grown hg1 (by simp; omega)).grown ha (by simp)
    · rw [hV1]; exact h1.grown ha (fun q hq => by cases hq)
    · rw [hV1]
      exact ⟨ha.os.trans (hg1.os.trans hG.os), ha.tape.trans (hg1.tape.trans hG.tape), ha.output.trans (hg1.output.trans hG.output), by have := ha.size; omega, fun q hq hne => (ha.block q (by omega) (by simp)).trans ((hg1.block q (by omega) hne).trans (hG.block q hq (by simp)))⟩
  rw [← hV1]
  clear hV1
  obtain ⟨M, hM⟩ : ∃ M, M = w1.heap.size := ⟨_, rfl⟩
  rw [← hM] at A1 ⊢
  clear hM h1 hg1 hRW rbW
  go_upto_region 3 with (go_at_call 48; refine (hN2 _ A1.rd).mono ?_; rintro e u ⟨rfl, hu, hgu⟩; have Q := A1.call hgu hu; obtain ⟨q0, q1⟩ := Q.mb.c 1 (by omega))
  have A2 := Q.set 1 (by omega) (.int .i64 n2)
  obtain ⟨V2, hV2⟩ : ∃ V : World, V = u.setCell ⟨M, 1, none⟩ (.int .i64 n2) := ⟨_, rfl⟩
  rw [← hV2] at A2 ⊢
  clear hV2 Q q0 q1 hu hgu A1
  replace A2 : RMAt w V2 M R L [.int .i64 (kn : Int), .int .i64 n2, .int .i64 0, .int .i64 0, .int .i64 0, .int .i64 0, .int .i64 0, .int .i64 0, .int .i64 0, .int .i64 0, .bool false, .int .i64 0] r2 := A2
  go_upto_region 4 with (go_at_call 48; refine (hN3 _ A2.rd).mono ?_; rintro e u ⟨rfl, hu, hgu⟩; have Q := A2.call hgu hu; obtain ⟨q0, q1⟩ := Q.mb.c 2 (by omega))
  have A3 := Q.set 2 (by omega) (.int .i64 n3)
  obtain ⟨V3, hV3⟩ : ∃ V : World, V = u.setCell ⟨M, 2, none⟩ (.int .i64 n3) := ⟨_, rfl⟩
  rw [← hV3] at A3 ⊢
  clear hV3 Q q0 q1 hu hgu A2
  replace A3 : RMAt w V3 M R L [.int .i64 (kn : Int), .int .i64 n2, .int .i64 n3, .int .i64 0, .int .i64 0, .int .i64 0, .int .i64 0, .int .i64 0, .int .i64 0, .int .i64 0, .bool false, .int .i64 0] r3 := A3
  go_upto_region 5 with (go_at_call 49; refine (hT _ A3.rd A3.rd.lt).mono ?_; rintro e u ⟨rfl, hu, hgu⟩; have Q := A3.call hgu hu; obtain ⟨q0, q1⟩ := Q.mb.c 3 (by omega); obtain ⟨q2, q3⟩ := Q.mb.c 4 (by omega))
  have A4 := (Q.set 3 (by omega) (.int .i64 n4)).set 4 (by omega) (.int .i64 n5)
  obtain ⟨V4, hV4⟩ : ∃ V : World, V = (u.setCell ⟨M, 3, none⟩ (.int .i64 n4)).setCell ⟨M, 4, none⟩ (.int .i64 n5) := ⟨_, rfl⟩
  rw [← hV4] at A4 ⊢
  clear hV4 Q q0 q1 q2 q3 hu hgu A3
  replace A4 : RMAt w V4 M R L [.int .i64 (kn : Int), .int .i64 n2, .int .i64 n3, .int .i64 n4, .int .i64 n5, .int .i64 0, .int .i64 0, .int .i64 0, .int .i64 0, .int .i64 0, .bool false, .int .i64 0] r5 := A4
  have EH : Hid (mHas.getD kn [] = [(mHas.getD kn []).getD 0 false, (mHas.getD kn []).getD 1 false, (mHas.getD kn []).getD 2 false, (mHas.getD kn []).getD 3 false, (mHas.getD kn []).getD 4 false, (mHas.getD kn []).getD 5 false, (mHas.getD kn []).getD 6 false, (mHas.getD kn []).getD 7 false]) := mHas_eight kn k10
  have hmV : HasAt V4 0 mHas := fun i j hi hj => A4.gr.cell (hm i j hi hj) (by simp; omega)
  have wV : WidsAt V4 := hwd.grown A4.gr (by simp; omega)
  have f0 := hmV kn 0 k10 (by decide)
  have f1 := hmV kn 1 k10 (by decide)
  have f2 := hmV kn 2 k10 (by decide)
  have f3 := hmV kn 3 k10 (by decide)
  have f4 := hmV kn 4 k10 (by decide)
  have f5 := hmV kn 5 k10 (by decide)
  have f6 := hmV kn 6 k10 (by decide)
  have f7 := hmV kn 7 k10 (by decide)
  obtain ⟨h0, eh0⟩ : ∃ x, x = (mHas.getD kn []).getD 0 false := ⟨_, rfl⟩
  obtain ⟨h1, eh1⟩ : ∃ x, x = (mHas.getD kn []).getD 1 false := ⟨_, rfl⟩
  obtain ⟨h2, eh2⟩ : ∃ x, x = (mHas.getD kn []).getD 2 false := ⟨_, rfl⟩
  obtain ⟨h3, eh3⟩ : ∃ x, x = (mHas.getD kn []).getD 3 false := ⟨_, rfl⟩
  obtain ⟨h4, eh4⟩ : ∃ x, x = (mHas.getD kn []).getD 4 false := ⟨_, rfl⟩
  obtain ⟨h5, eh5⟩ : ∃ x, x = (mHas.getD kn []).getD 5 false := ⟨_, rfl⟩
  obtain ⟨h6, eh6⟩ : ∃ x, x = (mHas.getD kn []).getD 6 false := ⟨_, rfl⟩
  obtain ⟨h7, eh7⟩ : ∃ x, x = (mHas.getD kn []).getD 7 false := ⟨_, rfl⟩
  rw [← eh0, ← eh1, ← eh2, ← eh3, ← eh4, ← eh5, ← eh6, ← eh7] at EH
  rw [← eh0] at f0
  rw [← eh1] at f1
  rw [← eh2] at f2
  rw [← eh3] at f3
  rw [← eh4] at f4
  rw [← eh5] at f5
  rw [← eh6] at f6
  rw [← eh7] at f7
  clear eh0 eh1 eh2 eh3 eh4 eh5 eh6 eh7
  simp only [Nat.add_zero] at f0
  obtain ⟨k0, _⟩ := A4.mb.c 0 (by omega)
  have k0' : V4.cell? ⟨M, 0, none⟩ = some (.int .i64 (kn : Int)) := k0
  clear k0
  go_upto_region 6 with (go_at_call 50; refine (partsR_any R L r5 h0 h1 h2 h3 h4 h5 h6 h7 _ A4.rd wV hgw).mono ?_; rintro e u ⟨v, rfl, q0, q1, q2, q3, q4, q5, q6, q7, rfl, hq, hu, hgu⟩)
  have A5 := (A4.call hgu hu).alloc (.cells #[.int .i64 q0, .int .i64 q1, .int .i64 q2, .int .i64 q3, .int .i64 q4, .int .i64 q5, .int .i64 q6, .int .i64 q7] 92)
  obtain ⟨V5, hV5⟩ : ∃ V : World, V = u.alloc (.cells #[.int .i64 q0, .int .i64 q1, .int .i64 q2, .int .i64 q3, .int .i64 q4, .int .i64 q5, .int .i64 q6, .int .i64 q7] 92) := ⟨_, rfl⟩
  have P5 : BoxN V5 u.heap.size 8 [.int .i64 q0, .int .i64 q1, .int .i64 q2, .int .i64 q3, .int .i64 q4, .int .i64 q5, .int .i64 q6, .int .i64 q7] := by
    refine ⟨rfl, by rw [hV5]; simp, fun i hi => ?_⟩
    rw [hV5]
    rcases (by omega : i = 0 ∨ i = 1 ∨ i = 2 ∨ i = 3 ∨ i = 4 ∨ i = 5 ∨ i = 6 ∨ i = 7) with rfl | rfl | rfl | rfl | rfl | rfl | rfl | rfl <;> exact ⟨by go_simp; first | done | rfl, by go_simp⟩
  have hMP : u.heap.size ≠ M := by have := (A4.call hgu hu).mb.lt; omega
  rw [← hV5] at A5 ⊢
  clear hV5
  obtain ⟨Pb, hPb⟩ : ∃ Pb, Pb = u.heap.size := ⟨_, rfl⟩
  rw [← hPb] at P5 hMP ⊢
  have hD : decMsgRS st = (⟨(kn : Int), n2, n3, n4, n5, q0, q1, q2, q3, q4, (q5 == 1), q6⟩, (decParts 0 [h0, h1, h2, h3, h4, h5, h6, h7] widL r5).2) := by
    rw [ED.out _ rfl, EH.out, hq]
    rfl
  obtain ⟨rF, erF⟩ : ∃ r, r = (decParts 0 [h0, h1, h2, h3, h4, h5, h6, h7] widL r5).2 := ⟨_, rfl⟩
  rw [← erF] at hD A5 hu
  have HD : Hid (decMsgRS st = (⟨(kn : Int), n2, n3, n4, n5, q0, q1, q2, q3, q4, (q5 == 1), q6⟩, rF)) := hD
  clear hPb hu hgu A4 hD erF hq ED EH f0 f1 f2 f3 f4 f5 f6 f7 hmV wV k0' hK hN2 hN3 hT
  obtain ⟨x0, _⟩ := P5.c 0 (by omega)
  replace x0 : V5.cell? ⟨Pb, 0, none⟩ = some (.int .i64 q0) := x0
  obtain ⟨y0, y1⟩ := A5.mb.c 5 (by omega)
  replace y0 : V5.cell? ⟨M, 5, none⟩ = some (.int .i64 0) := y0
  go_upto_region 7 with (fail)
  have A6 := A5.set 5 (by omega) (.int .i64 q0)
  have P6 := P5.far (c := M) (k := 5) (v := .int .i64 q0) hMP
  obtain ⟨V6, hV6⟩ : ∃ V : World, V = V5.setCell ⟨M, 5, none⟩ (.int .i64 q0) := ⟨_, rfl⟩
  rw [← hV6] at A6 P6 ⊢
  clear hV6 x0 y0 y1 A5 P5
  replace A6 : RMAt w V6 M R L [.int .i64 (kn : Int), .int .i64 n2, .int .i64 n3, .int .i64 n4, .int .i64 n5, .int .i64 q0, .int .i64 0, .int .i64 0, .int .i64 0, .int .i64 0, .bool false, .int .i64 0] rF := A6
  obtain ⟨x0, _⟩ := P6.c 1 (by omega)
  replace x0 : V6.cell? ⟨Pb, 1, none⟩ = some (.int .i64 q1) := x0
  obtain ⟨y0, y1⟩ := A6.mb.c 6 (by omega)
  replace y0 : V6.cell? ⟨M, 6, none⟩ = some (.int .i64 0) := y0
  go_upto_region 8 with (fail)
  have A7 := A6.set 6 (by omega) (.int .i64 q1)
  have P7 := P6.far (c := M) (k := 6) (v := .int .i64 q1) hMP
  obtain ⟨V7, hV7⟩ : ∃ V : World, V = V6.setCell ⟨M, 6, none⟩ (.int .i64 q1) := ⟨_, rfl⟩
  rw [← hV7] at A7 P7 ⊢
  clear hV7 x0 y0 y1 A6 P6
  replace A7 : RMAt w V7 M R L [.int .i64 (kn : Int), .int .i64 n2, .int .i64 n3, .int .i64 n4, .int .i64 n5, .int .i64 q0, .int .i64 q1, .int .i64 0, .int .i64 0, .int .i64 0, .bool false, .int .i64 0] rF := A7
  obtain ⟨x0, _⟩ := P7.c 2 (by omega)
  replace x0 : V7.cell? ⟨Pb, 2, none⟩ = some (.int .i64 q2) := x0
  obtain ⟨y0, y1⟩ := A7.mb.c 7 (by omega)
  replace y0 : V7.cell? ⟨M, 7, none⟩ = some (.int .i64 0) := y0
  go_upto_region 9 with (fail)
  have A8 := A7.set 7 (by omega) (.int .i64 q2)
  have P8 := P7.far (c := M) (k := 7) (v := .int .i64 q2) hMP
  obtain ⟨V8, hV8⟩ : ∃ V : World, V = V7.setCell ⟨M, 7, none⟩ (.int .i64 q2) := ⟨_, rfl⟩
  rw [← hV8] at A8 P8 ⊢
  clear hV8 x0 y0 y1 A7 P7
  replace A8 : RMAt w V8 M R L [.int .i64 (kn : Int), .int .i64 n2, .int .i64 n3, .int .i64 n4, .int .i64 n5, .int .i64 q0, .int .i64 q1, .int .i64 q2, .int .i64 0, .int .i64 0, .bool false, .int .i64 0] rF := A8
  obtain ⟨x0, _⟩ := P8.c 3 (by omega)
  replace x0 : V8.cell? ⟨Pb, 3, none⟩ = some (.int .i64 q3) := x0
  obtain ⟨y0, y1⟩ := A8.mb.c 8 (by omega)
  replace y0 : V8.cell? ⟨M, 8, none⟩ = some (.int .i64 0) := y0
  go_upto_region 10 with (fail)
  have A9 := A8.set 8 (by omega) (.int .i64 q3)
  have P9 := P8.far (c := M) (k := 8) (v := .int .i64 q3) hMP
  obtain ⟨V9, hV9⟩ : ∃ V : World, V = V8.setCell ⟨M, 8, none⟩ (.int .i64 q3) := ⟨_, rfl⟩
  rw [← hV9] at A9 P9 ⊢
  clear hV9 x0 y0 y1 A8 P8
  replace A9 : RMAt w V9 M R L [.int .i64 (kn : Int), .int .i64 n2, .int .i64 n3, .int .i64 n4, .int .i64 n5, .int .i64 q0, .int .i64 q1, .int .i64 q2, .int .i64 q3, .int .i64 0, .bool false, .int .i64 0] rF := A9
  obtain ⟨x0, _⟩ := P9.c 4 (by omega)
  replace x0 : V9.cell? ⟨Pb, 4, none⟩ = some (.int .i64 q4) := x0
  obtain ⟨y0, y1⟩ := A9.mb.c 9 (by omega)
  replace y0 : V9.cell? ⟨M, 9, none⟩ = some (.int .i64 0) := y0
  go_upto_region 11 with (fail)
  have A10 := A9.set 9 (by omega) (.int .i64 q4)
  have P10 := P9.far (c := M) (k := 9) (v := .int .i64 q4) hMP
  obtain ⟨V10, hV10⟩ : ∃ V : World, V = V9.setCell ⟨M, 9, none⟩ (.int .i64 q4) := ⟨_, rfl⟩
  rw [← hV10] at A10 P10 ⊢
  clear hV10 x0 y0 y1 A9 P9
  replace A10 : RMAt w V10 M R L [.int .i64 (kn : Int), .int .i64 n2, .int .i64 n3, .int .i64 n4, .int .i64 n5, .int .i64 q0, .int .i64 q1, .int .i64 q2, .int .i64 q3, .int .i64 q4, .bool false, .int .i64 0] rF := A10
  obtain ⟨x0, _⟩ := P10.c 5 (by omega)
  replace x0 : V10.cell? ⟨Pb, 5, none⟩ = some (.int .i64 q5) := x0
  obtain ⟨y0, y1⟩ := A10.mb.c 10 (by omega)
  replace y0 : V10.cell? ⟨M, 10, none⟩ = some (.bool false) := y0
  go_upto_region 12 with (fail)
  have A11 := A10.set 10 (by omega) (.bool (q5 == 1))
  have P11 := P10.far (c := M) (k := 10) (v := .bool (q5 == 1)) hMP
  obtain ⟨V11, hV11⟩ : ∃ V : World, V = V10.setCell ⟨M, 10, none⟩ (.bool (q5 == 1)) := ⟨_, rfl⟩
  rw [← hV11] at A11 P11 ⊢
  clear hV11 x0 y0 y1 A10 P10
  replace A11 : RMAt w V11 M R L [.int .i64 (kn : Int), .int .i64 n2, .int .i64 n3, .int .i64 n4, .int .i64 n5, .int .i64 q0, .int .i64 q1, .int .i64 q2, .int .i64 q3, .int .i64 q4, .bool (q5 == 1), .int .i64 0] rF := A11
  obtain ⟨x0, _⟩ := P11.c 6 (by omega)
  replace x0 : V11.cell? ⟨Pb, 6, none⟩ = some (.int .i64 q6) := x0
  obtain ⟨y0, y1⟩ := A11.mb.c 11 (by omega)
  replace y0 : V11.cell? ⟨M, 11, none⟩ = some (.int .i64 0) := y0
  go_upto_region 13 with (fail)
  have A12 := A11.set 11 (by omega) (.int .i64 q6)
  have P12 := P11.far (c := M) (k := 11) (v := .int .i64 q6) hMP
  obtain ⟨V12, hV12⟩ : ∃ V : World, V = V11.setCell ⟨M, 11, none⟩ (.int .i64 q6) := ⟨_, rfl⟩
  rw [← hV12] at A12 P12 ⊢
  clear hV12 x0 y0 y1 A11 P11
  replace A12 : RMAt w V12 M R L [.int .i64 (kn : Int), .int .i64 n2, .int .i64 n3, .int .i64 n4, .int .i64 n5, .int .i64 q0, .int .i64 q1, .int .i64 q2, .int .i64 q3, .int .i64 q4, .bool (q5 == 1), .int .i64 q6] rF := A12
  have mlt := A12.mlt
  have rlt := A12.rlt
  have m0 : V12.cell? ⟨M, 0, none⟩ = some (.int .i64 (kn : Int)) := (A12.mb.c 0 (by omega)).1
  have s0 : V12.cell? ⟨w.heap.size, 0, none⟩ = some (.int .i64 0) := (A12.rb.c 0 (by omega)).1
  have g0 : V12.frozen? ⟨w.heap.size, 0, none⟩ = false := (A12.rb.c 0 (by omega)).2
  have m1 : V12.cell? ⟨M, 1, none⟩ = some (.int .i64 n2) := (A12.mb.c 1 (by omega)).1
  have s1 : V12.cell? ⟨w.heap.size, 1, none⟩ = some (.int .i64 0) := (A12.rb.c 1 (by omega)).1
  have g1 : V12.frozen? ⟨w.heap.size, 1, none⟩ = false := (A12.rb.c 1 (by omega)).2
  have m2 : V12.cell? ⟨M, 2, none⟩ = some (.int .i64 n3) := (A12.mb.c 2 (by omega)).1
  have s2 : V12.cell? ⟨w.heap.size, 2, none⟩ = some (.int .i64 0) := (A12.rb.c 2 (by omega)).1
  have g2 : V12.frozen? ⟨w.heap.size, 2, none⟩ = false := (A12.rb.c 2 (by omega)).2
  have m3 : V12.cell? ⟨M, 3, none⟩ = some (.int .i64 n4) := (A12.mb.c 3 (by omega)).1
  have s3 : V12.cell? ⟨w.heap.size, 3, none⟩ = some (.int .i64 0) := (A12.rb.c 3 (by omega)).1
  have g3 : V12.frozen? ⟨w.heap.size, 3, none⟩ = false := (A12.rb.c 3 (by omega)).2
  have m4 : V12.cell? ⟨M, 4, none⟩ = some (.int .i64 n5) := (A12.mb.c 4 (by omega)).1
  have s4 : V12.cell? ⟨w.heap.size, 4, none⟩ = some (.int .i64 0) := (A12.rb.c 4 (by omega)).1
  have g4 : V12.frozen? ⟨w.heap.size, 4, none⟩ = false := (A12.rb.c 4 (by omega)).2
  have m5 : V12.cell? ⟨M, 5, none⟩ = some (.int .i64 q0) := (A12.mb.c 5 (by omega)).1
  have s5 : V12.cell? ⟨w.heap.size, 5, none⟩ = some (.int .i64 0) := (A12.rb.c 5 (by omega)).1
  have g5 : V12.frozen? ⟨w.heap.size, 5, none⟩ = false := (A12.rb.c 5 (by omega)).2
  have m6 : V12.cell? ⟨M, 6, none⟩ = some (.int .i64 q1) := (A12.mb.c 6 (by omega)).1
  have s6 : V12.cell? ⟨w.heap.size, 6, none⟩ = some (.int .i64 0) := (A12.rb.c 6 (by omega)).1
  have g6 : V12.frozen? ⟨w.heap.size, 6, none⟩ = false := (A12.rb.c 6 (by omega)).2
  have m7 : V12.cell? ⟨M, 7, none⟩ = some (.int .i64 q2) := (A12.mb.c 7 (by omega)).1
  have s7 : V12.cell? ⟨w.heap.size, 7, none⟩ = some (.int .i64 0) := (A12.rb.c 7 (by omega)).1
  have g7 : V12.frozen? ⟨w.heap.size, 7, none⟩ = false := (A12.rb.c 7 (by omega)).2
  have m8 : V12.cell? ⟨M, 8, none⟩ = some (.int .i64 q3) := (A12.mb.c 8 (by omega)).1
  have s8 : V12.cell? ⟨w.heap.size, 8, none⟩ = some (.int .i64 0) := (A12.rb.c 8 (by omega)).1
  have g8 : V12.frozen? ⟨w.heap.size, 8, none⟩ = false := (A12.rb.c 8 (by omega)).2
  have m9 : V12.cell? ⟨M, 9, none⟩ = some (.int .i64 q4) := (A12.mb.c 9 (by omega)).1
  have s9 : V12.cell? ⟨w.heap.size, 9, none⟩ = some (.int .i64 0) := (A12.rb.c 9 (by omega)).1
  have g9 : V12.frozen? ⟨w.heap.size, 9, none⟩ = false := (A12.rb.c 9 (by omega)).2
  have m10 : V12.cell? ⟨M, 10, none⟩ = some (.bool (q5 == 1)) := (A12.mb.c 10 (by omega)).1
  have s10 : V12.cell? ⟨w.heap.size, 10, none⟩ = some (.bool false) := (A12.rb.c 10 (by omega)).1
  have g10 : V12.frozen? ⟨w.heap.size, 10, none⟩ = false := (A12.rb.c 10 (by omega)).2
  have m11 : V12.cell? ⟨M, 11, none⟩ = some (.int .i64 q6) := (A12.mb.c 11 (by omega)).1
  have s11 : V12.cell? ⟨w.heap.size, 11, none⟩ = some (.int .i64 0) := (A12.rb.c 11 (by omega)).1
  have g11 : V12.frozen? ⟨w.heap.size, 11, none⟩ = false := (A12.rb.c 11 (by omega)).2
  have hset : V12.grownBy _ (some w.heap.size) := grown_set (i := 11) (v := .int .i64 q6) (grown_set (i := 10) (v := .bool (q5 == 1)) (grown_set (i := 9) (v := .int .i64 q4) (grown_set (i := 8) (v := .int .i64 q3) (grown_set (i := 7) (v := .int .i64 q2) (grown_set (i := 6) (v := .int .i64 q1) (grown_set (i := 5) (v := .int .i64 q0) (grown_set (i := 4) (v := .int .i64 n5) (grown_set (i := 3) (v := .int .i64 n4) (grown_set (i := 2) (v := .int .i64 n3) (grown_set (i := 1) (v := .int .i64 n2) (grown_set (i := 0) (v := .int .i64 (kn : Int)) (grownR_refl V12 (some w.heap.size)))))))))))))
  have hrdF := A12.rd.grown hset (fun q hq => by have := A12.rd.hL; simp at hq; omega)
  have hgrF := A12.gr
  clear A12 P12
  go_wp2
  refine bodyPost_ret (v := .agg #[.int .i64 (kn : Int), .int .i64 n2, .int .i64 n3, .int .i64 n4, .int .i64 n5, .int .i64 q0, .int .i64 q1, .int .i64 q2, .int .i64 q3, .int .i64 q4, .bool (q5 == 1), .int .i64 q6]) (by simp [results, Tryd.results24, go_sem, s0, s1, s2, s3, s4, s5, s6, s7, s8, s9, s10, s11]) rfl ⟨_, rfl, by rw [HD.out]; rfl, by rw [HD.out]; exact hrdF, ?_⟩
  exact ⟨hset.os.trans hgrF.os, hset.tape.trans hgrF.tape, hset.output.trans hgrF.output, Nat.le_trans hgrF.size hset.size, fun q hq hne => (hset.block q (by have := hgrF.size; omega) (by simp; omega)).trans (hgrF.block q hq hne)⟩
end Go.Proofs.YtflfcjbgkpfgkaaDoor
/- Messages off bytes, on plain data: what was written is read as it was, with a byte more it is none; what is read is written as it was; what is torn is short. -/
namespace Go.Proofs.YtflfcjbgkpfgkaaDoor
open Go.ChangeShapes Go.WideShapes Go.ChangeAt Go.RowKit
set_option linter.unusedVariables false

def MV.zero : MV := ⟨0, 0, 0, 0, 0, 0, 0, 0, 0, 0, false, 0⟩

/-- What DecodeMessage answers. -/
def msgOf (s : Int) (ls : List (Int × Int)) (p : Int) (b : List Int) : MV × Int :=
  if cfgFault s ls p ≠ 0 then (MV.zero, cfgFault s ls p)
  else if (decMsgRS ⟨b, 0⟩).2.fin.wrong ≠ 0 then (MV.zero, (decMsgRS ⟨b, 0⟩).2.fin.wrong)
  else if msgFault s ls p (decMsgRS ⟨b, 0⟩).1 ≠ 0 then (MV.zero, msgFault s ls p (decMsgRS ⟨b, 0⟩).1)
  else ((decMsgRS ⟨b, 0⟩).1, 0)

/-- The widths of a kind's numbers. -/
def mWid : Nat → List Nat
  | 1 => [1, 1, 1, 1, 3, 1, 1, 3]
  | 2 => [1, 1, 1, 1, 3, 1, 4, 3]
  | 3 => [1, 1, 1, 1, 3, 1, 1, 3]
  | 4 => [1, 1, 1, 1, 3, 1]
  | 5 => [1, 1, 1, 1, 3, 1, 1, 4, 3, 3, 1]
  | 6 => [1, 1, 1, 1, 3, 1, 3, 1]
  | 7 => [1, 1, 1, 1, 3, 1, 1, 3, 1]
  | _ => [1, 1, 1, 1, 3]
/-- A kind's numbers. -/
def mNums (k : Nat) (m : MV) : List Int :=
  [m.kind, m.frm, m.dst, m.site, m.num] ++ (match k with
  | 1 => [m.label, m.key, m.ask]
  | 2 => [m.key, m.value, m.ask]
  | 3 => [m.label, m.key, m.version]
  | 4 => [bit m.yes]
  | 5 => [m.label, m.key, m.value, m.version, m.ask, m.code]
  | 6 => [m.key, m.ask, m.code]
  | 7 => [m.label, m.key, m.version, bit m.yes]
  | _ => [])
/-- A message of a kind's numbers. -/
def mMake (k : Nat) (l : List Int) : MV :=
  match k with
  | 1 => ⟨1, l.getD 1 0, l.getD 2 0, l.getD 3 0, l.getD 4 0, l.getD 5 0, l.getD 6 0, 0, 0, l.getD 7 0, false, 0⟩
  | 2 => ⟨2, l.getD 1 0, l.getD 2 0, l.getD 3 0, l.getD 4 0, 0, l.getD 5 0, l.getD 6 0, 0, l.getD 7 0, false, 0⟩
  | 3 => ⟨3, l.getD 1 0, l.getD 2 0, l.getD 3 0, l.getD 4 0, l.getD 5 0, l.getD 6 0, 0, l.getD 7 0, 0, false, 0⟩
  | 4 => ⟨4, l.getD 1 0, l.getD 2 0, l.getD 3 0, l.getD 4 0, 0, 0, 0, 0, 0, decide (l.getD 5 0 = 1), 0⟩
  | 5 => ⟨5, l.getD 1 0, l.getD 2 0, l.getD 3 0, l.getD 4 0, l.getD 5 0, l.getD 6 0, l.getD 7 0, l.getD 8 0, l.getD 9 0, false, l.getD 10 0⟩
  | 6 => ⟨6, l.getD 1 0, l.getD 2 0, l.getD 3 0, l.getD 4 0, 0, l.getD 5 0, 0, 0, l.getD 6 0, false, l.getD 7 0⟩
  | 7 => ⟨7, l.getD 1 0, l.getD 2 0, l.getD 3 0, l.getD 4 0, l.getD 5 0, l.getD 6 0, 0, l.getD 7 0, 0, decide (l.getD 8 0 = 1), 0⟩
  | k => ⟨k, l.getD 1 0, l.getD 2 0, l.getD 3 0, l.getD 4 0, 0, 0, 0, 0, 0, false, 0⟩
/-- Where the truth stands, it is 0 or 1. -/
def mTruth (k : Nat) (l : List Int) : Int := match k with
  | 4 => l.getD 5 0
  | 7 => l.getD 8 0
  | _ => 0
def RS.truth (r : RS) (n : Int) : RS := if 1 < n then r.refuse 4 else r

theorem part_no {r : RS} {i k : Nat} (h : i ≠ 5) : r.part i k = r.num k := by simp [RS.part, h]
theorem part_yes (r : RS) (k : Nat) : r.part 5 k = ((r.num k).1, (r.num k).2.truth (r.num k).1) := by
  unfold RS.part RS.truth
  by_cases h : 1 < (r.num k).1 <;> simp [h]

theorem dec_kind (r : RS) (k : Nat) (hk : 1 ≤ k ∧ k ≤ 9) (h : (r.num 1).1 = k) :
    decMsgRS r = (mMake k (rdNums (mWid k) r).1, (rdNums (mWid k) r).2.truth (mTruth k (rdNums (mWid k) r).1)) := by
  have hkd : r.kind 10 = r.num 1 := by unfold RS.kind; rw [if_neg (by omega)]
  unfold decMsgRS
  rw [hkd, h]
  rcases (by omega : k = 1 ∨ k = 2 ∨ k = 3 ∨ k = 4 ∨ k = 5 ∨ k = 6 ∨ k = 7 ∨ k = 8 ∨ k = 9) with rfl | rfl | rfl | rfl | rfl | rfl | rfl | rfl | rfl
  all_goals simp [mHasOf, mHas, widL, decParts, part_no, part_yes, mMake, mWid, mTruth, rdNums, RS.truth, List.getD]

theorem make_nums {k : Nat} {m : MV} (hk : m.kind = k) (h9 : 1 ≤ k ∧ k ≤ 9) (hf : msgForm m = true) : mMake k (mNums k m) = m := by
  obtain ⟨kind, frm, dst, site, num, label, key, value, version, ask, yes, code⟩ := m
  simp only at hk
  subst hk
  rcases (by omega : k = 1 ∨ k = 2 ∨ k = 3 ∨ k = 4 ∨ k = 5 ∨ k = 6 ∨ k = 7 ∨ k = 8 ∨ k = 9) with rfl | rfl | rfl | rfl | rfl | rfl | rfl | rfl | rfl
  all_goals
    cases yes <;> simp_all [msgForm, mHasOf, mHas, hasAll, MV.parts, bit, mMake, mNums]

theorem wr_one {ks : List Nat} {n : Int} {ns : List Int} (h0 : 0 ≤ n) (h1 : n < 256) : wrNums (1 :: ks) (n :: ns) = n :: wrNums ks ns := by simp [wrNums, be_one h0 h1]

theorem bytes_nums {k : Nat} {m : MV} (hk : m.kind = k) (h9 : 1 ≤ k ∧ k ≤ 9) (h1 : 0 ≤ m.frm ∧ m.frm < 256) (h2 : 0 ≤ m.dst ∧ m.dst < 256) (h3 : 0 ≤ m.site ∧ m.site < 256) : msgBytes m = wrNums (mWid k) (mNums k m) := by
  obtain ⟨kind, frm, dst, site, num, label, key, value, version, ask, yes, code⟩ := m
  simp only at hk h1 h2 h3
  subst hk
  rcases (by omega : k = 1 ∨ k = 2 ∨ k = 3 ∨ k = 4 ∨ k = 5 ∨ k = 6 ∨ k = 7 ∨ k = 8 ∨ k = 9) with rfl | rfl | rfl | rfl | rfl | rfl | rfl | rfl | rfl
  all_goals
    simp only [mWid, mNums, List.cons_append, List.nil_append]
    rw [wr_one (by omega) (by omega), wr_one h1.1 h1.2, wr_one h2.1 h2.2, wr_one h3.1 h3.2]
    simp [msgBytes, wrNums, mHasOf, mHas, widL, encParts, MV.parts]

theorem fits_nums {s : Int} {n : Nat} {k : Nat} {m : MV} (hs : s ≤ 4) (hk : m.kind = k) (h9 : 1 ≤ k ∧ k ≤ 9) (hr : msgRange s n m = true) (hn : n ≤ 6) : fits (mWid k) (mNums k m) = true := by
  obtain ⟨kind, frm, dst, site, num, label, key, value, version, ask, yes, code⟩ := m
  simp only at hk
  subst hk
  simp only [msgRange, txnOK, partsOK, MV.parts, inTops, topL, Bool.and_eq_true, List.getD_cons_zero, List.getD_cons_succ] at hr
  obtain ⟨⟨⟨a1, a2⟩, a3, a4⟩, ⟨⟨a5, a6, a7, a8, a9, a10, a11, a12, _⟩, _⟩, a13⟩ := hr
  have b1 := inR_of a1
  have b2 := inR_of a2
  have b3 := inR_of a3
  have b4 := inR_of a4
  have b5 := inR_of a5
  have b6 := inR_of a6
  have b7 := inR_of a7
  have b8 := inR_of a8
  have b9 := inR_of a9
  have b10 := inR_of a10
  have b11 := inR_of a11
  rcases (by omega : k = 1 ∨ k = 2 ∨ k = 3 ∨ k = 4 ∨ k = 5 ∨ k = 6 ∨ k = 7 ∨ k = 8 ∨ k = 9) with rfl | rfl | rfl | rfl | rfl | rfl | rfl | rfl | rfl
  all_goals
    simp [mWid, mNums, fits]
    omega

theorem truth_bit (r : RS) (b : Bool) : r.truth (bit b) = r := by cases b <;> simp [RS.truth, bit]

/-- A MESSAGE IS READ AS IT WAS WRITTEN. -/
theorem dec_enc {s : Int} {ls : List (Int × Int)} {p : Int} {m : MV} (h : msgFault s ls p m = 0) (t : List Int) : decMsgRS ⟨msgBytes m ++ t, 0⟩ = (m, ⟨t, 0⟩) := by
  obtain ⟨hc, hk, hr, hf⟩ := may_msg h
  obtain ⟨s1, s4, n1, n6, _, _, _⟩ := cfg_zero hc
  have kb := inR_of hk
  obtain ⟨k, ek⟩ : ∃ k : Nat, m.kind = k := ⟨m.kind.toNat, by omega⟩
  have hr' := hr
  simp only [msgRange, txnOK, Bool.and_eq_true] at hr'
  have b1 := inR_of hr'.1.1.1
  have b2 := inR_of hr'.1.1.2
  have b3 := inR_of hr'.1.2.1
  have hfit := fits_nums s4 ek (by omega) hr n6
  have e := bytes_nums ek (by omega) (by omega) (by omega) (by omega)
  have hrd := rd_wr (mWid k) (mNums k m) t hfit
  rw [e]
  have hfst : (RS.num ⟨wrNums (mWid k) (mNums k m) ++ t, 0⟩ 1).1 = k := by
    have h1 : ∃ ks, mWid k = 1 :: ks := by
      rcases (by omega : k = 1 ∨ k = 2 ∨ k = 3 ∨ k = 4 ∨ k = 5 ∨ k = 6 ∨ k = 7 ∨ k = 8 ∨ k = 9) with rfl | rfl | rfl | rfl | rfl | rfl | rfl | rfl | rfl <;> exact ⟨_, rfl⟩
    obtain ⟨ks, hks⟩ := h1
    rw [hks] at hrd ⊢
    have := congrArg (fun x => x.1.getD 0 0) hrd
    simpa [rdNums, mNums, ek] using this
  rw [dec_kind _ k (by omega) hfst, hrd]
  have ht : mTruth k (mNums k m) = 0 ∨ mTruth k (mNums k m) = bit m.yes := by
    rcases (by omega : k = 1 ∨ k = 2 ∨ k = 3 ∨ k = 4 ∨ k = 5 ∨ k = 6 ∨ k = 7 ∨ k = 8 ∨ k = 9) with rfl | rfl | rfl | rfl | rfl | rfl | rfl | rfl | rfl
    all_goals first | exact .inl rfl | exact .inr rfl
  rw [make_nums ek (by omega) hf]
  rcases ht with ht | ht
  · rw [ht]; rfl
  · rw [ht, truth_bit]

theorem refuse_wrong {r : RS} {e : Int} (h : r.wrong ≠ 0) : r.refuse e = r := by simp [RS.refuse, h]
theorem fin_wrong {r : RS} (h : r.wrong ≠ 0) : r.fin = r := by unfold RS.fin; split; exact refuse_wrong h; rfl
theorem truth_wrong {r : RS} {n : Int} (h : r.wrong ≠ 0) : r.truth n = r := by unfold RS.truth; split; exact refuse_wrong h; rfl

/-- With a wrong start all stays. -/
theorem dec_stays (r : RS) (h : r.wrong ≠ 0) : (decMsgRS r).2 = r := by
  have h1 : ∀ k, r.num k = (0, r) := fun k => num_wrong h
  have hk : r.kind 10 = (0, r) := by simp [RS.kind, h1, refuse_wrong h]
  unfold decMsgRS
  simp [hk, h1, mHasOf, mHas, decParts, widL]

/-- The first byte is no kind: that is told, whatever stands behind. -/
theorem dec_nokind (r : RS) (h : r.wrong = 0) (hl : 0 < r.rest.length) (hk : (r.num 1).1 = 0 ∨ 10 ≤ (r.num 1).1) : (decMsgRS r).2.wrong = 3 := by
  have hn := num_ok h (show 1 ≤ r.rest.length by omega)
  have hkd : r.kind 10 = (0, ⟨r.rest.drop 1, 3⟩) := by
    unfold RS.kind
    rw [if_pos hk, hn]
    simp [RS.refuse]
  obtain ⟨q, hq⟩ : ∃ q, q = r.rest.drop 1 := ⟨_, rfl⟩
  rw [← hq] at hkd
  clear hq
  have h1 : ∀ k, RS.num ⟨q, 3⟩ k = (0, ⟨q, 3⟩) := fun k => num_wrong (by simp)
  unfold decMsgRS
  simp [hkd, h1, mHasOf, mHas, decParts, widL]

theorem dec_empty : (decMsgRS ⟨[], 0⟩).2.wrong = 5 := by decide

/-- WHAT IS TORN IS SHORT. -/
theorem dec_torn {s : Int} {ls : List (Int × Int)} {p : Int} {m : MV} (h : msgFault s ls p m = 0) (j : Nat) (hj : j < (msgBytes m).length) : (decMsgRS ⟨(msgBytes m).take j, 0⟩).2.wrong = 5 := by
  obtain ⟨hc, hk, hr, hf⟩ := may_msg h
  obtain ⟨s1, s4, n1, n6, _, _, _⟩ := cfg_zero hc
  have kb := inR_of hk
  obtain ⟨k, ek⟩ : ∃ k : Nat, m.kind = k := ⟨m.kind.toNat, by omega⟩
  have hr' := hr
  simp only [msgRange, txnOK, Bool.and_eq_true] at hr'
  have b1 := inR_of hr'.1.1.1
  have b2 := inR_of hr'.1.1.2
  have b3 := inR_of hr'.1.2.1
  have e := bytes_nums ek (by omega) (by omega) (by omega) (by omega)
  have hlen : (mNums k m).length = (mWid k).length := by
    rcases (by omega : k = 1 ∨ k = 2 ∨ k = 3 ∨ k = 4 ∨ k = 5 ∨ k = 6 ∨ k = 7 ∨ k = 8 ∨ k = 9) with rfl | rfl | rfl | rfl | rfl | rfl | rfl | rfl | rfl <;> rfl
  have hw := wr_len (mWid k) (mNums k m) hlen
  rw [← e] at hw
  cases j with
  | zero => simpa using dec_empty
  | succ j =>
    have hfst : (RS.num ⟨(msgBytes m).take (j + 1), 0⟩ 1).1 = k := by
      have hl : 1 ≤ ((msgBytes m).take (j + 1)).length := by simp; omega
      rw [num_ok rfl hl]
      simp [msgBytes, bval, ek]
    rw [dec_kind _ k (by omega) hfst]
    have := rd_short (mWid k) ⟨(msgBytes m).take (j + 1), 0⟩ rfl (by simp; omega)
    simp only
    rw [truth_wrong (by rw [this]; decide), this]

/-- NO MESSAGE HAS TWO FORMS. -/
theorem enc_dec {b : List Int} (hb : Byt b) (h : (decMsgRS ⟨b, 0⟩).2.fin.wrong = 0) : msgBytes (decMsgRS ⟨b, 0⟩).1 = b := by
  by_cases hl : b.length = 0
  · obtain rfl := List.length_eq_zero_iff.1 hl
    rw [fin_wrong (by rw [dec_empty]; decide), dec_empty] at h
    cases h
  · by_cases hk : (RS.num ⟨b, 0⟩ 1).1 = 0 ∨ 10 ≤ (RS.num ⟨b, 0⟩ 1).1
    · have := dec_nokind ⟨b, 0⟩ rfl (by simp; omega) hk
      rw [fin_wrong (by rw [this]; decide), this] at h
      cases h
    · have hbd : 0 ≤ (RS.num ⟨b, 0⟩ 1).1 := by
        rw [num_ok rfl (show 1 ≤ b.length by omega)]
        exact (bval_bd 1 (b.take 1) (by simp; omega) (fun x hx => hb x (List.mem_of_mem_take hx))).1
      obtain ⟨k, ek⟩ : ∃ k : Nat, (RS.num ⟨b, 0⟩ 1).1 = k := ⟨(RS.num ⟨b, 0⟩ 1).1.toNat, by omega⟩
      have k9 : 1 ≤ k ∧ k ≤ 9 := by omega
      have hd := dec_kind ⟨b, 0⟩ k k9 ek
      rw [hd] at h ⊢
      simp only at h ⊢
      by_cases hw : widthOf (mWid k) ≤ b.length
      · obtain ⟨h1, h2, h3⟩ := rd_ok (mWid k) ⟨b, 0⟩ rfl hw hb
        simp only at h1 h2 h3
        have hfst : (rdNums (mWid k) ⟨b, 0⟩).1.getD 0 0 = k := by
          have hx : ∃ ks, mWid k = 1 :: ks := by
            rcases (by omega : k = 1 ∨ k = 2 ∨ k = 3 ∨ k = 4 ∨ k = 5 ∨ k = 6 ∨ k = 7 ∨ k = 8 ∨ k = 9) with rfl | rfl | rfl | rfl | rfl | rfl | rfl | rfl | rfl <;> exact ⟨_, rfl⟩
          obtain ⟨ks, hks⟩ := hx
          rw [hks]
          simpa [rdNums] using ek
        have hln := rd_len (mWid k) ⟨b, 0⟩
        generalize hq : rdNums (mWid k) ⟨b, 0⟩ = q at h h1 h2 h3 hfst hln ⊢
        have htr : ¬ 1 < mTruth k q.1 := by
          intro hlt
          rw [h1] at h
          simp [RS.truth, hlt, RS.refuse, RS.fin] at h
        have hrest : b.drop (widthOf (mWid k)) = [] := by
          rw [h1] at h
          simp only [RS.truth, if_neg htr, RS.fin, RS.refuse] at h
          split at h
          · simp at h
          · rename_i hz
            exact List.length_eq_zero_iff.1 (by omega)
        have hall : b.take (widthOf (mWid k)) = b := by
          have := List.take_append_drop (widthOf (mWid k)) b
          rw [hrest, List.append_nil] at this
          exact this
        have hq1 : mNums k (mMake k q.1) = q.1 ∧ (mMake k q.1).kind = k ∧ (0 ≤ (mMake k q.1).frm ∧ (mMake k q.1).frm < 256) ∧ (0 ≤ (mMake k q.1).dst ∧ (mMake k q.1).dst < 256) ∧ (0 ≤ (mMake k q.1).site ∧ (mMake k q.1).site < 256) := by
          obtain ⟨q1, q2⟩ := q
          simp only at hfst hln htr h2 ⊢
          rcases (by omega : k = 1 ∨ k = 2 ∨ k = 3 ∨ k = 4 ∨ k = 5 ∨ k = 6 ∨ k = 7 ∨ k = 8 ∨ k = 9) with rfl | rfl | rfl | rfl | rfl | rfl | rfl | rfl | rfl
          · match q1, hln with
            | [x0, x1, x2, x3, x4, x5, x6, x7], _ =>
              simp only [fits, mWid, Bool.and_eq_true, decide_eq_true_eq] at h2
              have g1 : 0 ≤ x1 ∧ x1 < 256 := by simpa using h2.2.1
              have g2 : 0 ≤ x2 ∧ x2 < 256 := by simpa using h2.2.2.1
              have g3 : 0 ≤ x3 ∧ x3 < 256 := by simpa using h2.2.2.2.1
              have e0 : x0 = _ := hfst
              subst e0
              exact ⟨rfl, rfl, g1, g2, g3⟩
          · match q1, hln with
            | [x0, x1, x2, x3, x4, x5, x6, x7], _ =>
              simp only [fits, mWid, Bool.and_eq_true, decide_eq_true_eq] at h2
              have g1 : 0 ≤ x1 ∧ x1 < 256 := by simpa using h2.2.1
              have g2 : 0 ≤ x2 ∧ x2 < 256 := by simpa using h2.2.2.1
              have g3 : 0 ≤ x3 ∧ x3 < 256 := by simpa using h2.2.2.2.1
              have e0 : x0 = _ := hfst
              subst e0
              exact ⟨rfl, rfl, g1, g2, g3⟩
          · match q1, hln with
            | [x0, x1, x2, x3, x4, x5, x6, x7], _ =>
              simp only [fits, mWid, Bool.and_eq_true, decide_eq_true_eq] at h2
              have g1 : 0 ≤ x1 ∧ x1 < 256 := by simpa using h2.2.1
              have g2 : 0 ≤ x2 ∧ x2 < 256 := by simpa using h2.2.2.1
              have g3 : 0 ≤ x3 ∧ x3 < 256 := by simpa using h2.2.2.2.1
              have e0 : x0 = _ := hfst
              subst e0
              exact ⟨rfl, rfl, g1, g2, g3⟩
          · match q1, hln with
            | [x0, x1, x2, x3, x4, x5], _ =>
              simp only [fits, mWid, Bool.and_eq_true, decide_eq_true_eq] at h2
              have g1 : 0 ≤ x1 ∧ x1 < 256 := by simpa using h2.2.1
              have g2 : 0 ≤ x2 ∧ x2 < 256 := by simpa using h2.2.2.1
              have g3 : 0 ≤ x3 ∧ x3 < 256 := by simpa using h2.2.2.2.1
              have e0 : x0 = _ := hfst
              subst e0
              have gt : 0 ≤ x5 ∧ x5 < 256 := by simpa using h2.2.2.2.2.2.1
              have ht1 : ¬ 1 < x5 := htr
              have et : x5 = 0 ∨ x5 = 1 := by omega
              rcases et with rfl | rfl <;> exact ⟨rfl, rfl, g1, g2, g3⟩
          · match q1, hln with
            | [x0, x1, x2, x3, x4, x5, x6, x7, x8, x9, x10], _ =>
              simp only [fits, mWid, Bool.and_eq_true, decide_eq_true_eq] at h2
              have g1 : 0 ≤ x1 ∧ x1 < 256 := by simpa using h2.2.1
              have g2 : 0 ≤ x2 ∧ x2 < 256 := by simpa using h2.2.2.1
              have g3 : 0 ≤ x3 ∧ x3 < 256 := by simpa using h2.2.2.2.1
              have e0 : x0 = _ := hfst
              subst e0
              exact ⟨rfl, rfl, g1, g2, g3⟩
          · match q1, hln with
            | [x0, x1, x2, x3, x4, x5, x6, x7], _ =>
              simp only [fits, mWid, Bool.and_eq_true, decide_eq_true_eq] at h2
              have g1 : 0 ≤ x1 ∧ x1 < 256 := by simpa using h2.2.1
              have g2 : 0 ≤ x2 ∧ x2 < 256 := by simpa using h2.2.2.1
              have g3 : 0 ≤ x3 ∧ x3 < 256 := by simpa using h2.2.2.2.1
              have e0 : x0 = _ := hfst
              subst e0
              exact ⟨rfl, rfl, g1, g2, g3⟩
          · match q1, hln with
            | [x0, x1, x2, x3, x4, x5, x6, x7, x8], _ =>
              simp only [fits, mWid, Bool.and_eq_true, decide_eq_true_eq] at h2
              have g1 : 0 ≤ x1 ∧ x1 < 256 := by simpa using h2.2.1
              have g2 : 0 ≤ x2 ∧ x2 < 256 := by simpa using h2.2.2.1
              have g3 : 0 ≤ x3 ∧ x3 < 256 := by simpa using h2.2.2.2.1
              have e0 : x0 = _ := hfst
              subst e0
              have gt : 0 ≤ x8 ∧ x8 < 256 := by simpa using h2.2.2.2.2.2.2.2.2.1
              have ht1 : ¬ 1 < x8 := htr
              have et : x8 = 0 ∨ x8 = 1 := by omega
              rcases et with rfl | rfl <;> exact ⟨rfl, rfl, g1, g2, g3⟩
          · match q1, hln with
            | [x0, x1, x2, x3, x4], _ =>
              simp only [fits, mWid, Bool.and_eq_true, decide_eq_true_eq] at h2
              have g1 : 0 ≤ x1 ∧ x1 < 256 := by simpa using h2.2.1
              have g2 : 0 ≤ x2 ∧ x2 < 256 := by simpa using h2.2.2.1
              have g3 : 0 ≤ x3 ∧ x3 < 256 := by simpa using h2.2.2.2.1
              have e0 : x0 = _ := hfst
              subst e0
              exact ⟨rfl, rfl, g1, g2, g3⟩
          · match q1, hln with
            | [x0, x1, x2, x3, x4], _ =>
              simp only [fits, mWid, Bool.and_eq_true, decide_eq_true_eq] at h2
              have g1 : 0 ≤ x1 ∧ x1 < 256 := by simpa using h2.2.1
              have g2 : 0 ≤ x2 ∧ x2 < 256 := by simpa using h2.2.2.1
              have g3 : 0 ≤ x3 ∧ x3 < 256 := by simpa using h2.2.2.2.1
              have e0 : x0 = _ := hfst
              subst e0
              exact ⟨rfl, rfl, g1, g2, g3⟩
        rw [bytes_nums hq1.2.1 k9 hq1.2.2.1 hq1.2.2.2.1 hq1.2.2.2.2, hq1.1, h3, hall]
      · have := rd_short (mWid k) ⟨b, 0⟩ rfl (by simp only; omega)
        rw [truth_wrong (by rw [this]; decide), fin_wrong (by rw [this]; decide), this] at h
        cases h
end Go.Proofs.YtflfcjbgkpfgkaaDoor
/- The contract of wire.DecodeMessage: what msgOf tells. -/
namespace Go.Proofs.YtflfcjbgkpfgkaaDoor
open Go.ChangeShapes Go.WideShapes Go.ChangeAt Go.RowKit
set_option linter.unusedVariables false

theorem boxn_new (u : World) (cs : Array Value) (t : TypeId) (n : Nat) (hn : cs.size = n) : BoxN (u.alloc (.cells cs t)) u.heap.size n cs.toList := by
  refine ⟨by simpa using hn, by simp, fun i hi => ?_⟩
  have hb : (u.alloc (.cells cs t)).heap[u.heap.size]? = some (.cells cs t (0, 0)) := heap_alloc_new u _
  refine ⟨?_, ?_⟩
  · rw [cell_of_row _ u.heap.size i cs t (0, 0) hb]
    rw [Array.getElem?_eq_getElem (by omega)]
    simp [List.getD, show i < cs.size by omega]
  · simp only [World.frozen?, hb]
    simp
theorem BoxN.below {u u' : World} {b n B : Nat} {vs : List Value} (h : BoxN u b n vs) (hb : Below B u u') (hB : b < B) : BoxN u' b n vs := by
  have e := hb.block b hB
  refine ⟨h.len, Nat.lt_of_lt_of_le h.lt hb.size, fun i hi => ⟨?_, ?_⟩⟩
  · rw [World.cell?_of_block (a := ⟨b, i, none⟩) e]; exact (h.c i hi).1
  · rw [World.frozen?_of_block (a := ⟨b, i, none⟩) e]; exact (h.c i hi).2
theorem kind_nonneg (r : RS) (hb : Byt r.rest) (top : Int) : 0 ≤ (r.kind top).1 := by
  have hn : 0 ≤ (r.num 1).1 := by
    by_cases h0 : r.wrong = 0
    · by_cases hk : 1 ≤ r.rest.length
      · rw [num_ok h0 hk]
        exact (bval_bd 1 (r.rest.take 1) (by simp; omega) (hb.take 1)).1
      · rw [num_short h0 (by omega)]; exact Int.le_refl _
    · rw [num_wrong h0]; exact Int.le_refl _
  unfold RS.kind
  split
  · exact Int.le_refl _
  · exact hn

/-- What the reader is when it begins. -/
theorem rd_new {u : World} {L : Nat} {a : Option Addr} {len cap : Nat} {bs : List Int} (h : IsB u a len cap bs) (hL : L ≤ u.heap.size) (hf : ∀ b off, a = some ⟨b, off, none⟩ → b < L) :
    RdTo (u.alloc (.cells #[.slice a len cap, .int .i64 0] 63)) u.heap.size L ⟨bs, 0⟩ :=
  ⟨a, len, cap, by go_simp, by go_simp, by go_simp, by go_simp, h.below ((Below.refl _ _).alloc (Nat.le_refl _) _), hf, hL, by simp⟩
theorem isB_lt {w : World} {a : Option Addr} {len cap : Nat} {bs : List Int} (h : IsB w a len cap bs) : ∀ b off, 0 < len → a = some ⟨b, off, none⟩ → b < w.heap.size := by
  intro b off hl e
  obtain ⟨b', off', e', hlt, _⟩ := h.2.2.2.2.2 hl
  rw [e] at e'
  cases e'
  exact hlt

set_option maxRecDepth 100000 in
set_option maxHeartbeats 4000000 in
theorem decodeMessage_any (s p : Int) (a : Option Addr) (len cap : Nat) (ls : List (Int × Int)) (ba : Option Addr) (bl bc : Nat) (bs : List Int) (w : World) (h : IsLabs w a len cap ls) (hI : IsB w ba bl bc bs) (hfb : ∀ b off, ba = some ⟨b, off, none⟩ → b < w.heap.size) (hm : HasAt w 0 mHas) (ht : TopsAt w) (hwd : WidsAt w) :
    Calls Tryd.prog 6 #[.agg #[.int .i64 s, .slice a len cap, .int .i64 p], .slice ba bl bc] w fun e w' => e = .returned (.tuple #[(msgOf s ls p bs).1.val, .int .i64 (msgOf s ls p bs).2]) ∧ Below w.heap.size w w' := by
  have hgT : 3 < w.heap.size := World.block_lt_of_cell? w _ ht.1
  have hgM : 0 < w.heap.size := hm.lt (by decide)
  have hgW : 2 < w.heap.size := hwd.lt
  have hbyt := hI.2.2.2.1
  have hkn := kind_nonneg ⟨bs, 0⟩ hbyt 10
  have hRd := fun R L w' h1 h2 h3 h4 h5 => readMessage_any R L ⟨bs, 0⟩ w' h1 h2 h3 h4 h5 hkn
  have EO : Hid (msgOf s ls p bs = if cfgFault s ls p ≠ 0 then (MV.zero, cfgFault s ls p) else if (decMsgRS ⟨bs, 0⟩).2.fin.wrong ≠ 0 then (MV.zero, (decMsgRS ⟨bs, 0⟩).2.fin.wrong) else if msgFault s ls p (decMsgRS ⟨bs, 0⟩).1 ≠ 0 then (MV.zero, msgFault s ls p (decMsgRS ⟨bs, 0⟩).1) else ((decMsgRS ⟨bs, 0⟩).1, 0)) := rfl
  obtain ⟨MO, eMO⟩ : ∃ x, x = msgOf s ls p bs := ⟨_, rfl⟩
  rw [← eMO] at EO ⊢
  clear eMO
  obtain ⟨m, rE, eD⟩ : ∃ m r, decMsgRS ⟨bs, 0⟩ = (m, r) := ⟨_, _, rfl⟩
  rw [eD] at EO hRd
  simp only at EO hRd
  clear eD hkn
  have hCk := fun w' h1 h2 h3 => checkMessage_any s p a len cap ls m w' h1 h2 h3
  obtain ⟨FE, eFE⟩ : ∃ x, x = rE.fin.wrong := ⟨_, rfl⟩
  obtain ⟨FM, eFM⟩ : ∃ x, x = msgFault s ls p m := ⟨_, rfl⟩
  obtain ⟨FC, eFC⟩ : ∃ x, x = cfgFault s ls p := ⟨_, rfl⟩
  have hEnd := fun R L w' hh => endR_any R L rE w' hh
  have hLc := fun w' hh => check_any s p a len cap ls w' hh
  rw [← eFE] at EO hEnd
  rw [← eFM] at EO hCk
  rw [← eFC] at EO hLc
  clear eFE eFM eFC
  obtain ⟨kind, frm, dst, site, num, label, key, value, version, ask, yes, code⟩ := m
  simp only [MV.val] at hCk hRd
  obtain ⟨W, hW⟩ : ∃ W : World, W = (w.alloc (.cells #[.int .i64 s, .slice a len cap, .int .i64 p] 24)).alloc (.cells #[.int .i64 0, .int .i64 0, .int .i64 0, .int .i64 0, .int .i64 0, .int .i64 0, .int .i64 0, .int .i64 0, .int .i64 0, .int .i64 0, .bool false, .int .i64 0] 30) := ⟨_, rfl⟩
  have hB : Below w.heap.size w W := by rw [hW]; exact ((Below.refl _ _).alloc (Nat.le_refl _) _).alloc (by simp) _
  have zW : W.heap.size = w.heap.size + 2 := by rw [hW]; simp
  have c0 : W.cell? ⟨w.heap.size, 0, none⟩ = some (.int .i64 s) := by rw [hW]; go_simp
  have c1 : W.cell? ⟨w.heap.size, 1, none⟩ = some (.slice a len cap) := by rw [hW]; go_simp
  have c2 : W.cell? ⟨w.heap.size, 2, none⟩ = some (.int .i64 p) := by rw [hW]; go_simp
  have rbW : BoxN W (w.heap.size + 1) 12 [.int .i64 0, .int .i64 0, .int .i64 0, .int .i64 0, .int .i64 0, .int .i64 0, .int .i64 0, .int .i64 0, .int .i64 0, .int .i64 0, .bool false, .int .i64 0] := by
    have := boxn_new (w.alloc (.cells #[.int .i64 s, .slice a len cap, .int .i64 p] 24)) #[.int .i64 0, .int .i64 0, .int .i64 0, .int .i64 0, .int .i64 0, .int .i64 0, .int .i64 0, .int .i64 0, .int .i64 0, .int .i64 0, .bool false, .int .i64 0] 30 12 rfl
    rw [hW]
    simpa using this
  have hLW := h.below hB
  have KC : Hid (∀ V : World, Below W.heap.size W V → V.cell? ⟨w.heap.size, 0, none⟩ = some (.int .i64 s) ∧ V.cell? ⟨w.heap.size, 1, none⟩ = some (.slice a len cap) ∧ V.cell? ⟨w.heap.size, 2, none⟩ = some (.int .i64 p) ∧ BoxN V (w.heap.size + 1) 12 [.int .i64 0, .int .i64 0, .int .i64 0, .int .i64 0, .int .i64 0, .int .i64 0, .int .i64 0, .int .i64 0, .int .i64 0, .int .i64 0, .bool false, .int .i64 0]) := by
    intro V hV
    exact ⟨(hV.cell (p := ⟨w.heap.size, 0, none⟩) (by show w.heap.size < _; omega)).trans c0, (hV.cell (p := ⟨w.heap.size, 1, none⟩) (by show w.heap.size < _; omega)).trans c1, (hV.cell (p := ⟨w.heap.size, 2, none⟩) (by show w.heap.size < _; omega)).trans c2, rbW.below hV (by omega)⟩
  go_enter Tryd.func6, Tryd.ntmps6
  go_upto_region 1 with (fail)
  rw [← hW]
  clear hW
  go_upto_region 2 with (go_at_call 23; refine (hLc _ hLW).mono ?_; rintro e w1 ⟨rfl, hb1⟩)
  clear c0 c1 c2 rbW
  have hw1 := hB.trans (hb1.mono hB.size)
  by_cases hF : FC = 0
  · subst hF
    go_upto_region 4 with (fail)
    go_upto_region 5 with (fail)
    obtain ⟨V, hV⟩ : ∃ V : World, V = w1.alloc (.cells #[.slice ba bl bc, .int .i64 0] 63) := ⟨_, rfl⟩
    have hRV : RdTo V w1.heap.size w.heap.size ⟨bs, 0⟩ := by rw [hV]; exact rd_new (hI.below hw1) hw1.size hfb
    have hWV : Below W.heap.size W V := by rw [hV]; exact hb1.alloc hb1.size _
    have hwV := hB.trans (hWV.mono hB.size)
    rw [← hV]
    clear hV
    have hmV := hm.below hwV hgM
    have wdV := hwd.below hwV hgW
    have hRs : W.heap.size ≤ w1.heap.size := hb1.size
    go_upto_region 6 with (go_at_call 24; refine (hRd _ _ _ hRV hmV wdV hgM hgW).mono ?_; rintro e w2 ⟨v, rfl, rfl, hR2, hg2⟩)
    have hW2 : Below W.heap.size W w2 := hWV.grown hg2 hWV.size (fun q hq => by simp at hq; omega)
    obtain ⟨U, hU⟩ : ∃ U : World, U = w2.alloc (.cells #[.int .i64 kind, .int .i64 frm, .int .i64 dst, .int .i64 site, .int .i64 num, .int .i64 label, .int .i64 key, .int .i64 value, .int .i64 version, .int .i64 ask, .bool yes, .int .i64 code] 30) := ⟨_, rfl⟩
    have mbU : BoxN U w2.heap.size 12 [.int .i64 kind, .int .i64 frm, .int .i64 dst, .int .i64 site, .int .i64 num, .int .i64 label, .int .i64 key, .int .i64 value, .int .i64 version, .int .i64 ask, .bool yes, .int .i64 code] := by rw [hU]; simpa using boxn_new w2 #[.int .i64 kind, .int .i64 frm, .int .i64 dst, .int .i64 site, .int .i64 num, .int .i64 label, .int .i64 key, .int .i64 value, .int .i64 version, .int .i64 ask, .bool yes, .int .i64 code] 30 12 rfl
    have hWU : Below W.heap.size W U := by rw [hU]; exact hW2.alloc hW2.size _
    have hRU : RdTo U w1.heap.size w.heap.size rE := by rw [hU]; exact hR2.grown (World.grownBy_alloc w2 _ none) (fun q hq => by cases hq)
    have hR2lt := hR2.lt
    rw [← hU]
    clear hU hR2 hRV
    go_upto_region 7 with (go_at_call 25; refine (hEnd _ _ _ hRU).mono ?_; rintro e w3 ⟨rfl, hg3⟩)
    have hW3 : Below W.heap.size W w3 := hWU.grown hg3 hWU.size (fun q hq => by simp at hq; omega)
    have mb3 := mbU.grown hg3 (by simp; omega)
    have hw3 := hB.trans (hW3.mono hB.size)
    obtain ⟨c0, c1, c2, rb3⟩ := KC.out _ hW3
    clear mbU hRU hg2 hg3
    by_cases hE : FE = 0
    · subst hE
      have m0 : w3.cell? ⟨w2.heap.size, 0, none⟩ = some (.int .i64 kind) := (mb3.c 0 (by omega)).1
      have m1 : w3.cell? ⟨w2.heap.size, 1, none⟩ = some (.int .i64 frm) := (mb3.c 1 (by omega)).1
      have m2 : w3.cell? ⟨w2.heap.size, 2, none⟩ = some (.int .i64 dst) := (mb3.c 2 (by omega)).1
      have m3 : w3.cell? ⟨w2.heap.size, 3, none⟩ = some (.int .i64 site) := (mb3.c 3 (by omega)).1
      have m4 : w3.cell? ⟨w2.heap.size, 4, none⟩ = some (.int .i64 num) := (mb3.c 4 (by omega)).1
      have m5 : w3.cell? ⟨w2.heap.size, 5, none⟩ = some (.int .i64 label) := (mb3.c 5 (by omega)).1
      have m6 : w3.cell? ⟨w2.heap.size, 6, none⟩ = some (.int .i64 key) := (mb3.c 6 (by omega)).1
      have m7 : w3.cell? ⟨w2.heap.size, 7, none⟩ = some (.int .i64 value) := (mb3.c 7 (by omega)).1
      have m8 : w3.cell? ⟨w2.heap.size, 8, none⟩ = some (.int .i64 version) := (mb3.c 8 (by omega)).1
      have m9 : w3.cell? ⟨w2.heap.size, 9, none⟩ = some (.int .i64 ask) := (mb3.c 9 (by omega)).1
      have m10 : w3.cell? ⟨w2.heap.size, 10, none⟩ = some (.bool yes) := (mb3.c 10 (by omega)).1
      have m11 : w3.cell? ⟨w2.heap.size, 11, none⟩ = some (.int .i64 code) := (mb3.c 11 (by omega)).1
      have hL3 := h.below hw3
      have hm3 := hm.below hw3 hgM
      have ht3 := ht.below hw3 hgT
      go_upto_region 9 with (fail)
      go_upto_region 10 with (go_at_call 26; refine (hCk _ hL3 hm3 ht3).mono ?_; rintro e w4 ⟨rfl, hb4⟩)
      have hW4 := hW3.trans (hb4.mono hW3.size)
      have mb4 := mb3.below hb4 mb3.lt
      have hw4 := hB.trans (hW4.mono hB.size)
      have mlt : w.heap.size + 1 < w2.heap.size := by have := hW2.size; omega
      have mlt' : w.heap.size + 1 ≠ w2.heap.size := by omega
      clear c0 c1 c2 rb3 m0 m1 m2 m3 m4 m5 m6 m7 m8 m9 m10 m11
      obtain ⟨c0, c1, c2, rb4⟩ := KC.out _ hW4
      have s0 : w4.cell? ⟨w.heap.size + 1, 0, none⟩ = some (.int .i64 0) := (rb4.c 0 (by omega)).1
      have g0 : w4.frozen? ⟨w.heap.size + 1, 0, none⟩ = false := (rb4.c 0 (by omega)).2
      have s1 : w4.cell? ⟨w.heap.size + 1, 1, none⟩ = some (.int .i64 0) := (rb4.c 1 (by omega)).1
      have g1 : w4.frozen? ⟨w.heap.size + 1, 1, none⟩ = false := (rb4.c 1 (by omega)).2
      have s2 : w4.cell? ⟨w.heap.size + 1, 2, none⟩ = some (.int .i64 0) := (rb4.c 2 (by omega)).1
      have g2 : w4.frozen? ⟨w.heap.size + 1, 2, none⟩ = false := (rb4.c 2 (by omega)).2
      have s3 : w4.cell? ⟨w.heap.size + 1, 3, none⟩ = some (.int .i64 0) := (rb4.c 3 (by omega)).1
      have g3 : w4.frozen? ⟨w.heap.size + 1, 3, none⟩ = false := (rb4.c 3 (by omega)).2
      have s4 : w4.cell? ⟨w.heap.size + 1, 4, none⟩ = some (.int .i64 0) := (rb4.c 4 (by omega)).1
      have g4 : w4.frozen? ⟨w.heap.size + 1, 4, none⟩ = false := (rb4.c 4 (by omega)).2
      have s5 : w4.cell? ⟨w.heap.size + 1, 5, none⟩ = some (.int .i64 0) := (rb4.c 5 (by omega)).1
      have g5 : w4.frozen? ⟨w.heap.size + 1, 5, none⟩ = false := (rb4.c 5 (by omega)).2
      have s6 : w4.cell? ⟨w.heap.size + 1, 6, none⟩ = some (.int .i64 0) := (rb4.c 6 (by omega)).1
      have g6 : w4.frozen? ⟨w.heap.size + 1, 6, none⟩ = false := (rb4.c 6 (by omega)).2
      have s7 : w4.cell? ⟨w.heap.size + 1, 7, none⟩ = some (.int .i64 0) := (rb4.c 7 (by omega)).1
      have g7 : w4.frozen? ⟨w.heap.size + 1, 7, none⟩ = false := (rb4.c 7 (by omega)).2
      have s8 : w4.cell? ⟨w.heap.size + 1, 8, none⟩ = some (.int .i64 0) := (rb4.c 8 (by omega)).1
      have g8 : w4.frozen? ⟨w.heap.size + 1, 8, none⟩ = false := (rb4.c 8 (by omega)).2
      have s9 : w4.cell? ⟨w.heap.size + 1, 9, none⟩ = some (.int .i64 0) := (rb4.c 9 (by omega)).1
      have g9 : w4.frozen? ⟨w.heap.size + 1, 9, none⟩ = false := (rb4.c 9 (by omega)).2
      have s10 : w4.cell? ⟨w.heap.size + 1, 10, none⟩ = some (.bool false) := (rb4.c 10 (by omega)).1
      have g10 : w4.frozen? ⟨w.heap.size + 1, 10, none⟩ = false := (rb4.c 10 (by omega)).2
      have s11 : w4.cell? ⟨w.heap.size + 1, 11, none⟩ = some (.int .i64 0) := (rb4.c 11 (by omega)).1
      have g11 : w4.frozen? ⟨w.heap.size + 1, 11, none⟩ = false := (rb4.c 11 (by omega)).2
      by_cases hX : FM = 0
      · subst hX
        have m0 : w4.cell? ⟨w2.heap.size, 0, none⟩ = some (.int .i64 kind) := (mb4.c 0 (by omega)).1
        have m1 : w4.cell? ⟨w2.heap.size, 1, none⟩ = some (.int .i64 frm) := (mb4.c 1 (by omega)).1
        have m2 : w4.cell? ⟨w2.heap.size, 2, none⟩ = some (.int .i64 dst) := (mb4.c 2 (by omega)).1
        have m3 : w4.cell? ⟨w2.heap.size, 3, none⟩ = some (.int .i64 site) := (mb4.c 3 (by omega)).1
        have m4 : w4.cell? ⟨w2.heap.size, 4, none⟩ = some (.int .i64 num) := (mb4.c 4 (by omega)).1
        have m5 : w4.cell? ⟨w2.heap.size, 5, none⟩ = some (.int .i64 label) := (mb4.c 5 (by omega)).1
        have m6 : w4.cell? ⟨w2.heap.size, 6, none⟩ = some (.int .i64 key) := (mb4.c 6 (by omega)).1
        have m7 : w4.cell? ⟨w2.heap.size, 7, none⟩ = some (.int .i64 value) := (mb4.c 7 (by omega)).1
        have m8 : w4.cell? ⟨w2.heap.size, 8, none⟩ = some (.int .i64 version) := (mb4.c 8 (by omega)).1
        have m9 : w4.cell? ⟨w2.heap.size, 9, none⟩ = some (.int .i64 ask) := (mb4.c 9 (by omega)).1
        have m10 : w4.cell? ⟨w2.heap.size, 10, none⟩ = some (.bool yes) := (mb4.c 10 (by omega)).1
        have m11 : w4.cell? ⟨w2.heap.size, 11, none⟩ = some (.int .i64 code) := (mb4.c 11 (by omega)).1
        clear mb4 mb3 rb4
        go_wp2
        refine bodyPost_ret (v := .tuple #[.agg #[.int .i64 kind, .int .i64 frm, .int .i64 dst, .int .i64 site, .int .i64 num, .int .i64 label, .int .i64 key, .int .i64 value, .int .i64 version, .int .i64 ask, .bool yes, .int .i64 code], .int .i64 0]) (by simp [results, Tryd.results6, go_sem, s0, s1, s2, s3, s4, s5, s6, s7, s8, s9, s10, s11]) rfl ⟨by rw [EO.out]; rfl, ?_⟩
        exact (Below.setCell (p := ⟨w.heap.size + 1, 11, none⟩) (Below.setCell (p := ⟨w.heap.size + 1, 10, none⟩) (Below.setCell (p := ⟨w.heap.size + 1, 9, none⟩) (Below.setCell (p := ⟨w.heap.size + 1, 8, none⟩) (Below.setCell (p := ⟨w.heap.size + 1, 7, none⟩) (Below.setCell (p := ⟨w.heap.size + 1, 6, none⟩) (Below.setCell (p := ⟨w.heap.size + 1, 5, none⟩) (Below.setCell (p := ⟨w.heap.size + 1, 4, none⟩) (Below.setCell (p := ⟨w.heap.size + 1, 3, none⟩) (Below.setCell (p := ⟨w.heap.size + 1, 2, none⟩) (Below.setCell (p := ⟨w.heap.size + 1, 1, none⟩) (Below.setCell (p := ⟨w.heap.size + 1, 0, none⟩) hw4 (by simp) (.int .i64 kind)) (by simp) (.int .i64 frm)) (by simp) (.int .i64 dst)) (by simp) (.int .i64 site)) (by simp) (.int .i64 num)) (by simp) (.int .i64 label)) (by simp) (.int .i64 key)) (by simp) (.int .i64 value)) (by simp) (.int .i64 version)) (by simp) (.int .i64 ask)) (by simp) (.bool yes)) (by simp) (.int .i64 code))
      · clear mb4 mb3 rb4
        go_wp2
        refine bodyPost_ret (v := .tuple #[.agg #[.int .i64 0, .int .i64 0, .int .i64 0, .int .i64 0, .int .i64 0, .int .i64 0, .int .i64 0, .int .i64 0, .int .i64 0, .int .i64 0, .bool false, .int .i64 0], .int .i64 FM]) (by simp [results, Tryd.results6, go_sem, s0, s1, s2, s3, s4, s5, s6, s7, s8, s9, s10, s11]) rfl ⟨by rw [EO.out, if_neg (by simp), if_neg (by simp), if_pos hX]; rfl, ?_⟩
        exact (Below.setCell (p := ⟨w.heap.size + 1, 11, none⟩) (Below.setCell (p := ⟨w.heap.size + 1, 10, none⟩) (Below.setCell (p := ⟨w.heap.size + 1, 9, none⟩) (Below.setCell (p := ⟨w.heap.size + 1, 8, none⟩) (Below.setCell (p := ⟨w.heap.size + 1, 7, none⟩) (Below.setCell (p := ⟨w.heap.size + 1, 6, none⟩) (Below.setCell (p := ⟨w.heap.size + 1, 5, none⟩) (Below.setCell (p := ⟨w.heap.size + 1, 4, none⟩) (Below.setCell (p := ⟨w.heap.size + 1, 3, none⟩) (Below.setCell (p := ⟨w.heap.size + 1, 2, none⟩) (Below.setCell (p := ⟨w.heap.size + 1, 1, none⟩) (Below.setCell (p := ⟨w.heap.size + 1, 0, none⟩) hw4 (by simp) (.int .i64 0)) (by simp) (.int .i64 0)) (by simp) (.int .i64 0)) (by simp) (.int .i64 0)) (by simp) (.int .i64 0)) (by simp) (.int .i64 0)) (by simp) (.int .i64 0)) (by simp) (.int .i64 0)) (by simp) (.int .i64 0)) (by simp) (.int .i64 0)) (by simp) (.bool false)) (by simp) (.int .i64 0))
    · have hw3b := hw3
      have s0 : w3.cell? ⟨w.heap.size + 1, 0, none⟩ = some (.int .i64 0) := (rb3.c 0 (by omega)).1
      have g0 : w3.frozen? ⟨w.heap.size + 1, 0, none⟩ = false := (rb3.c 0 (by omega)).2
      have s1 : w3.cell? ⟨w.heap.size + 1, 1, none⟩ = some (.int .i64 0) := (rb3.c 1 (by omega)).1
      have g1 : w3.frozen? ⟨w.heap.size + 1, 1, none⟩ = false := (rb3.c 1 (by omega)).2
      have s2 : w3.cell? ⟨w.heap.size + 1, 2, none⟩ = some (.int .i64 0) := (rb3.c 2 (by omega)).1
      have g2 : w3.frozen? ⟨w.heap.size + 1, 2, none⟩ = false := (rb3.c 2 (by omega)).2
      have s3 : w3.cell? ⟨w.heap.size + 1, 3, none⟩ = some (.int .i64 0) := (rb3.c 3 (by omega)).1
      have g3 : w3.frozen? ⟨w.heap.size + 1, 3, none⟩ = false := (rb3.c 3 (by omega)).2
      have s4 : w3.cell? ⟨w.heap.size + 1, 4, none⟩ = some (.int .i64 0) := (rb3.c 4 (by omega)).1
      have g4 : w3.frozen? ⟨w.heap.size + 1, 4, none⟩ = false := (rb3.c 4 (by omega)).2
      have s5 : w3.cell? ⟨w.heap.size + 1, 5, none⟩ = some (.int .i64 0) := (rb3.c 5 (by omega)).1
      have g5 : w3.frozen? ⟨w.heap.size + 1, 5, none⟩ = false := (rb3.c 5 (by omega)).2
      have s6 : w3.cell? ⟨w.heap.size + 1, 6, none⟩ = some (.int .i64 0) := (rb3.c 6 (by omega)).1
      have g6 : w3.frozen? ⟨w.heap.size + 1, 6, none⟩ = false := (rb3.c 6 (by omega)).2
      have s7 : w3.cell? ⟨w.heap.size + 1, 7, none⟩ = some (.int .i64 0) := (rb3.c 7 (by omega)).1
      have g7 : w3.frozen? ⟨w.heap.size + 1, 7, none⟩ = false := (rb3.c 7 (by omega)).2
      have s8 : w3.cell? ⟨w.heap.size + 1, 8, none⟩ = some (.int .i64 0) := (rb3.c 8 (by omega)).1
      have g8 : w3.frozen? ⟨w.heap.size + 1, 8, none⟩ = false := (rb3.c 8 (by omega)).2
      have s9 : w3.cell? ⟨w.heap.size + 1, 9, none⟩ = some (.int .i64 0) := (rb3.c 9 (by omega)).1
      have g9 : w3.frozen? ⟨w.heap.size + 1, 9, none⟩ = false := (rb3.c 9 (by omega)).2
      have s10 : w3.cell? ⟨w.heap.size + 1, 10, none⟩ = some (.bool false) := (rb3.c 10 (by omega)).1
      have g10 : w3.frozen? ⟨w.heap.size + 1, 10, none⟩ = false := (rb3.c 10 (by omega)).2
      have s11 : w3.cell? ⟨w.heap.size + 1, 11, none⟩ = some (.int .i64 0) := (rb3.c 11 (by omega)).1
      have g11 : w3.frozen? ⟨w.heap.size + 1, 11, none⟩ = false := (rb3.c 11 (by omega)).2
      clear mb3 rb3
      go_wp2
      refine bodyPost_ret (v := .tuple #[.agg #[.int .i64 0, .int .i64 0, .int .i64 0, .int .i64 0, .int .i64 0, .int .i64 0, .int .i64 0, .int .i64 0, .int .i64 0, .int .i64 0, .bool false, .int .i64 0], .int .i64 FE]) (by simp [results, Tryd.results6, go_sem, s0, s1, s2, s3, s4, s5, s6, s7, s8, s9, s10, s11]) rfl ⟨by rw [EO.out, if_neg (by simp), if_pos hE]; rfl, ?_⟩
      exact (Below.setCell (p := ⟨w.heap.size + 1, 11, none⟩) (Below.setCell (p := ⟨w.heap.size + 1, 10, none⟩) (Below.setCell (p := ⟨w.heap.size + 1, 9, none⟩) (Below.setCell (p := ⟨w.heap.size + 1, 8, none⟩) (Below.setCell (p := ⟨w.heap.size + 1, 7, none⟩) (Below.setCell (p := ⟨w.heap.size + 1, 6, none⟩) (Below.setCell (p := ⟨w.heap.size + 1, 5, none⟩) (Below.setCell (p := ⟨w.heap.size + 1, 4, none⟩) (Below.setCell (p := ⟨w.heap.size + 1, 3, none⟩) (Below.setCell (p := ⟨w.heap.size + 1, 2, none⟩) (Below.setCell (p := ⟨w.heap.size + 1, 1, none⟩) (Below.setCell (p := ⟨w.heap.size + 1, 0, none⟩) hw3 (by simp) (.int .i64 0)) (by simp) (.int .i64 0)) (by simp) (.int .i64 0)) (by simp) (.int .i64 0)) (by simp) (.int .i64 0)) (by simp) (.int .i64 0)) (by simp) (.int .i64 0)) (by simp) (.int .i64 0)) (by simp) (.int .i64 0)) (by simp) (.int .i64 0)) (by simp) (.bool false)) (by simp) (.int .i64 0))
  · obtain ⟨c0, c1, c2, rb1⟩ := KC.out _ hb1
    have s0 : w1.cell? ⟨w.heap.size + 1, 0, none⟩ = some (.int .i64 0) := (rb1.c 0 (by omega)).1
    have g0 : w1.frozen? ⟨w.heap.size + 1, 0, none⟩ = false := (rb1.c 0 (by omega)).2
    have s1 : w1.cell? ⟨w.heap.size + 1, 1, none⟩ = some (.int .i64 0) := (rb1.c 1 (by omega)).1
    have g1 : w1.frozen? ⟨w.heap.size + 1, 1, none⟩ = false := (rb1.c 1 (by omega)).2
    have s2 : w1.cell? ⟨w.heap.size + 1, 2, none⟩ = some (.int .i64 0) := (rb1.c 2 (by omega)).1
    have g2 : w1.frozen? ⟨w.heap.size + 1, 2, none⟩ = false := (rb1.c 2 (by omega)).2
    have s3 : w1.cell? ⟨w.heap.size + 1, 3, none⟩ = some (.int .i64 0) := (rb1.c 3 (by omega)).1
    have g3 : w1.frozen? ⟨w.heap.size + 1, 3, none⟩ = false := (rb1.c 3 (by omega)).2
    have s4 : w1.cell? ⟨w.heap.size + 1, 4, none⟩ = some (.int .i64 0) := (rb1.c 4 (by omega)).1
    have g4 : w1.frozen? ⟨w.heap.size + 1, 4, none⟩ = false := (rb1.c 4 (by omega)).2
    have s5 : w1.cell? ⟨w.heap.size + 1, 5, none⟩ = some (.int .i64 0) := (rb1.c 5 (by omega)).1
    have g5 : w1.frozen? ⟨w.heap.size + 1, 5, none⟩ = false := (rb1.c 5 (by omega)).2
    have s6 : w1.cell? ⟨w.heap.size + 1, 6, none⟩ = some (.int .i64 0) := (rb1.c 6 (by omega)).1
    have g6 : w1.frozen? ⟨w.heap.size + 1, 6, none⟩ = false := (rb1.c 6 (by omega)).2
    have s7 : w1.cell? ⟨w.heap.size + 1, 7, none⟩ = some (.int .i64 0) := (rb1.c 7 (by omega)).1
    have g7 : w1.frozen? ⟨w.heap.size + 1, 7, none⟩ = false := (rb1.c 7 (by omega)).2
    have s8 : w1.cell? ⟨w.heap.size + 1, 8, none⟩ = some (.int .i64 0) := (rb1.c 8 (by omega)).1
    have g8 : w1.frozen? ⟨w.heap.size + 1, 8, none⟩ = false := (rb1.c 8 (by omega)).2
    have s9 : w1.cell? ⟨w.heap.size + 1, 9, none⟩ = some (.int .i64 0) := (rb1.c 9 (by omega)).1
    have g9 : w1.frozen? ⟨w.heap.size + 1, 9, none⟩ = false := (rb1.c 9 (by omega)).2
    have s10 : w1.cell? ⟨w.heap.size + 1, 10, none⟩ = some (.bool false) := (rb1.c 10 (by omega)).1
    have g10 : w1.frozen? ⟨w.heap.size + 1, 10, none⟩ = false := (rb1.c 10 (by omega)).2
    have s11 : w1.cell? ⟨w.heap.size + 1, 11, none⟩ = some (.int .i64 0) := (rb1.c 11 (by omega)).1
    have g11 : w1.frozen? ⟨w.heap.size + 1, 11, none⟩ = false := (rb1.c 11 (by omega)).2
    clear rb1
    go_wp2
    refine bodyPost_ret (v := .tuple #[.agg #[.int .i64 0, .int .i64 0, .int .i64 0, .int .i64 0, .int .i64 0, .int .i64 0, .int .i64 0, .int .i64 0, .int .i64 0, .int .i64 0, .bool false, .int .i64 0], .int .i64 FC]) (by simp [results, Tryd.results6, go_sem, s0, s1, s2, s3, s4, s5, s6, s7, s8, s9, s10, s11]) rfl ⟨by rw [EO.out, if_pos hF]; rfl, ?_⟩
    exact (Below.setCell (p := ⟨w.heap.size + 1, 11, none⟩) (Below.setCell (p := ⟨w.heap.size + 1, 10, none⟩) (Below.setCell (p := ⟨w.heap.size + 1, 9, none⟩) (Below.setCell (p := ⟨w.heap.size + 1, 8, none⟩) (Below.setCell (p := ⟨w.heap.size + 1, 7, none⟩) (Below.setCell (p := ⟨w.heap.size + 1, 6, none⟩) (Below.setCell (p := ⟨w.heap.size + 1, 5, none⟩) (Below.setCell (p := ⟨w.heap.size + 1, 4, none⟩) (Below.setCell (p := ⟨w.heap.size + 1, 3, none⟩) (Below.setCell (p := ⟨w.heap.size + 1, 2, none⟩) (Below.setCell (p := ⟨w.heap.size + 1, 1, none⟩) (Below.setCell (p := ⟨w.heap.size + 1, 0, none⟩) hw1 (by simp) (.int .i64 0)) (by simp) (.int .i64 0)) (by simp) (.int .i64 0)) (by simp) (.int .i64 0)) (by simp) (.int .i64 0)) (by simp) (.int .i64 0)) (by simp) (.int .i64 0)) (by simp) (.int .i64 0)) (by simp) (.int .i64 0)) (by simp) (.int .i64 0)) (by simp) (.bool false)) (by simp) (.int .i64 0))
end Go.Proofs.YtflfcjbgkpfgkaaDoor
