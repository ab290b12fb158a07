/- Texts of this claim, one behind the other. -/
import Derived.Test.YtlaagfnoepcnlaaDoorM19LinesReads
import Derived.Test.YtlaagfnoepcnlaaDoorM14LinesReads
import Derived.Test.YtlaagfnoepcnlaaDoorM10LinesReads
import Derived.Test.YtlaagfnoepcnlaaDoorM20LinesReads
/- lines' reader: act. -/
namespace Go.Proofs.YtlaagfnoepcnlaaDoor.Ln
open Go.ChangeShapes Go.WideShapes Go.ChangeAt Go.RowKit
open Go.Proofs.YtlaagfnoepcnlaaDoor.St (BoxN boxn_new own_below IsRow Elem flat own_isRow)
set_option linter.unusedVariables false

def zAct : List Value := [.int .i64 0, .int .i64 0, .int .i64 0, .int .i64 0, .int .i64 0, .slice none 0 0, .int .i64 0, .int .i64 0, .int .i64 0, .int .i64 0, .int .i64 0, .string ⟨#[]⟩]
/-- Where act stands: the result's box, the act's box, the parts that its kind has, the reader. -/
structure ActSt (L q : Nat) (u : World) (B b4 : Nat) (fl cs : List Value) (st : Option WS) (v : World) : Prop where
  res : BoxN v u.heap.size 12 zAct
  act : BoxN v B 12 cs
  has : BoxN v b4 7 fl
  rd : Rd L q v st
  sav : Sav q u v
theorem ActSt.on {L q : Nat} {u : World} {B b4 : Nat} {fl cs : List Value} {st st' : Option WS} {v v' : World} (h : ActSt L q u B b4 fl cs st v) (s : Sav q v v') (hr : Rd L q v' st') (h1 : u.heap.size ≠ q) (h2 : B ≠ q) (h3 : b4 ≠ q) : ActSt L q u B b4 fl cs st' v' :=
  ⟨s.box h.res h1, s.box h.act h2, s.box h.has h3, hr, h.sav.trans s⟩
theorem ActSt.set {L q : Nat} {u : World} {B b4 : Nat} {fl cs : List Value} {st : Option WS} {v : World} (h : ActSt L q u B b4 fl cs st v) (i : Nat) (hi : i < 12) (x : Value) (h1 : u.heap.size < B) (h2 : b4 ≠ B) (h3 : q ≠ B) : ActSt L q u B b4 fl (cs.set i x) st (v.setCell ⟨B, i, none⟩ x) := by
  refine ⟨h.res.far (by omega), h.act.set i hi x, h.has.far h2, h.rd.far h3, ?_⟩
  have b := (Below.refl u.heap.size v).setCell (p := ⟨B, i, none⟩) (by show u.heap.size ≤ B; omega) x
  exact ⟨b.os.trans h.sav.os, b.tape.trans h.sav.tape, b.output.trans h.sav.output, Nat.le_trans h.sav.size b.size, fun j hj hq => (b.block j hj).trans (h.sav.block j hj hq)⟩
theorem _root_.Go.Proofs.YtlaagfnoepcnlaaDoor.St.BoxN.sav2 {q p b n : Nat} {vs : List Value} {u v : World} (hb : BoxN u b n vs) (h : Sav2 q p u v) (hq : b ≠ q) (hp : b ≠ p) : BoxN v b n vs := by
  have e := h.block b hb.lt hq hp
  refine ⟨hb.len, Nat.lt_of_lt_of_le hb.lt h.size, fun i hi => ⟨?_, ?_⟩⟩
  · rw [World.cell?_of_block (a := ⟨b, i, none⟩) e]; exact (hb.c i hi).1
  · rw [World.frozen?_of_block (a := ⟨b, i, none⟩) e]; exact (hb.c i hi).2
theorem aHas_k4 (k : Nat) (hk : k < 9) : (aHas.getD k []).getD 4 false = decide (k = 6) := by
  rcases (by omega : k = 0 ∨ k = 1 ∨ k = 2 ∨ k = 3 ∨ k = 4 ∨ k = 5 ∨ k = 6 ∨ k = 7 ∨ k = 8) with rfl | rfl | rfl | rfl | rfl | rfl | rfl | rfl | rfl <;> rfl
theorem aHas_k5 (k : Nat) (hk : k < 9) : (aHas.getD k []).getD 5 false = decide (k = 1) := by
  rcases (by omega : k = 0 ∨ k = 1 ∨ k = 2 ∨ k = 3 ∨ k = 4 ∨ k = 5 ∨ k = 6 ∨ k = 7 ∨ k = 8) with rfl | rfl | rfl | rfl | rfl | rfl | rfl | rfl | rfl <;> rfl
theorem aHas_k6 (k : Nat) (hk : k < 9) : (aHas.getD k []).getD 6 false = decide (k = 8) := by
  rcases (by omega : k = 0 ∨ k = 1 ∨ k = 2 ∨ k = 3 ∨ k = 4 ∨ k = 5 ∨ k = 6 ∨ k = 7 ∨ k = 8) with rfl | rfl | rfl | rfl | rfl | rfl | rfl | rfl | rfl <;> rfl
theorem aHas_take (k : Nat) (hk : k < 9) : (aHas.getD k []).take 4 = [(aHas.getD k []).getD 0 false, (aHas.getD k []).getD 1 false, (aHas.getD k []).getD 2 false, (aHas.getD k []).getD 3 false] := by
  rcases (by omega : k = 0 ∨ k = 1 ∨ k = 2 ∨ k = 3 ∨ k = 4 ∨ k = 5 ∨ k = 6 ∨ k = 7 ∨ k = 8) with rfl | rfl | rfl | rfl | rfl | rfl | rfl | rfl | rfl <;> rfl
theorem own_far {w : World} {C B k : Nat} {x : Value} {te : TypeId} {sz : Nat} {v : Value} {n : Nat} {xs : List Value} (h : w.ownsRow C te sz v n xs) (hb : B < C) : (w.setCell ⟨B, k, none⟩ x).ownsRow C te sz v n xs := by
  obtain ⟨h1, h2⟩ := h
  refine ⟨h1, ?_⟩
  rcases h2 with h2 | ⟨g, cap, cur, e, hg, hh, r⟩
  · exact .inl h2
  · exact .inr ⟨g, cap, cur, e, hg, (Below.heap_setCell w _ _ g (by show g ≠ B; omega)).trans hh, r⟩
theorem ActSt.drew {L q : Nat} {u : World} {B b4 : Nat} {fl cs : List Value} {st : Option WS} {v : World} (h : ActSt L q u B b4 fl cs st v) : ActSt L q u B b4 fl cs st v.drew :=
  have b : Below v.heap.size v v.drew := (Below.refl _ _).drew
  ⟨h.res.below b h.res.lt, h.act.below b h.act.lt, h.has.below b h.has.lt, h.rd.below b, h.sav.drew⟩
/-- A row of numbers that the call made behind a block. -/
structure Keeps (v : World) (C : Nat) (ka : Option Addr) (kl kc : Nat) (zs : List Int) : Prop where
  own : v.ownsRow C 3 1 (.slice ka kl kc) kl (St.flat iC zs)
  len : zs.length = kl
  most : kl ≤ 7
  all : ∀ z ∈ zs, i64n z
def KeepSt (L q : Nat) (u : World) (B b4 : Nat) (fl pre post : List Value) (K : Nat) (st3 : Option WS) (v : World) : Prop := ∃ ka kl kc zs st4, ActSt L q u B b4 fl (pre ++ .slice ka kl kc :: post) st4 v ∧ Keeps v (B + 1) ka kl kc zs ∧ st4 = (st3.bind fun ws => (stKeep K ws).map (·.2)) ∧ ∀ ws p, st3 = some ws → stKeep K ws = some p → zs = p.1.take 7
def CalledSt (L q : Nat) (u : World) (B b4 : Nat) (fl pre : List Value) (post : List Value) (K : Nat) (ka : Option Addr) (kl kc : Nat) (zs : List Int) (st4 : Option WS) (v : World) : Prop := ∃ (k : Nat) (c0 c1 c2 c3 : Int) (st5 : Option WS), ActSt L q u B b4 fl (pre ++ .int .i64 (k : Int) :: .int .i64 c0 :: .int .i64 c1 :: .int .i64 c2 :: .int .i64 c3 :: post) st5 v ∧ Keeps v (B + 1) ka kl kc zs ∧ st5 = (st4.bind fun ws => (stCalled K ws).map (·.2)) ∧ ∀ ws p, st4 = some ws → stCalled K ws = some p → p.1 = ⟨k, [c0, c1, c2, c3]⟩
def LineSt (L q : Nat) (u : World) (B b4 : Nat) (fl pre : List Value) (K : Nat) (ka : Option Addr) (kl kc : Nat) (zs : List Int) (st5 : Option WS) (v : World) : Prop := ∃ (t : List UInt8) (st6 : Option WS), ActSt L q u B b4 fl (pre ++ [.string ⟨t.toArray⟩]) st6 v ∧ Keeps v (B + 1) ka kl kc zs ∧ st6 = (st5.bind fun ws => (stLine K ws).map (·.2)) ∧ ∀ ws p, st5 = some ws → stLine K ws = some p → t = p.1
/-- An act of its parts, where its Keep is told already. -/
def mkA (k : Nat) (ps : List Int) (zs : List Int) (c : CV) (t : List UInt8) : AV :=
  ⟨(k : Int), ps.getD 0 0, ps.getD 1 0, ps.getD 2 0, ps.getD 3 0, none, zs.length, 0, (c.kind : Int), c.ps.getD 0 0, c.ps.getD 1 0, c.ps.getD 2 0, c.ps.getD 3 0, ⟨t.toArray⟩, zs⟩
theorem act_chain {K : Nat} {ws : WS} {hs : List Bool} {st2 st3 st4 st5 st6 : Option WS} {ps zs : List Int} {cv : CV} {t : List UInt8} (hK : K = kindA (ws.headD [])) (hh : (aHas.getD K []).take 4 = hs)
    (e2 : st2 = if K = 0 then none else some ws.tail) (e3 : st3 = st2.bind fun ws => (stNums hs ws).map (·.2)) (v3 : ∀ ws p, st2 = some ws → stNums hs ws = some p → ps = p.1)
    (e4 : st4 = st3.bind fun ws => (stKeep K ws).map (·.2)) (v4 : ∀ ws p, st3 = some ws → stKeep K ws = some p → zs = p.1.take 7)
    (e5 : st5 = st4.bind fun ws => (stCalled K ws).map (·.2)) (v5 : ∀ ws p, st4 = some ws → stCalled K ws = some p → p.1 = cv)
    (e6 : st6 = st5.bind fun ws => (stLine K ws).map (·.2)) (v6 : ∀ ws p, st5 = some ws → stLine K ws = some p → t = p.1) :
    st6 = (stAct ws).map (·.2) ∧ ∀ p, stAct ws = some p → p.1 = mkA K ps zs cv t := by
  unfold stAct
  rw [← hK]
  by_cases h0 : K = 0
  · rw [if_pos h0] at e2 ⊢
    subst e2 e3 e4 e5 e6
    exact ⟨rfl, fun p h => by cases h⟩
  · rw [if_neg h0] at e2 ⊢
    subst e2
    rw [hh]
    have e3' : st3 = (stNums hs ws.tail).map (·.2) := e3
    cases h3 : stNums hs ws.tail with
    | none =>
      rw [h3] at e3'
      subst e3' e4 e5 e6
      exact ⟨rfl, fun p h => by cases h⟩
    | some p =>
      rw [h3] at e3'
      have w3 := v3 ws.tail p rfl h3
      have e3' : st3 = some p.2 := e3'
      subst e3'
      have e4' : st4 = (stKeep K p.2).map (·.2) := e4
      dsimp only
      cases h4 : stKeep K p.2 with
      | none =>
        rw [h4] at e4'
        subst e4' e5 e6
        exact ⟨rfl, fun p h => by cases h⟩
      | some z =>
        rw [h4] at e4'
        have w4 := v4 p.2 z rfl h4
        have e4' : st4 = some z.2 := e4'
        subst e4'
        have e5' : st5 = (stCalled K z.2).map (·.2) := e5
        dsimp only
        cases h5 : stCalled K z.2 with
        | none =>
          rw [h5] at e5'
          subst e5' e6
          exact ⟨rfl, fun p h => by cases h⟩
        | some c =>
          rw [h5] at e5'
          have w5 := v5 z.2 c rfl h5
          have e5' : st5 = some c.2 := e5'
          subst e5'
          have e6' : st6 = (stLine K c.2).map (·.2) := e6
          dsimp only
          cases h6 : stLine K c.2 with
          | none =>
            rw [h6] at e6'
            subst e6'
            exact ⟨rfl, fun p h => by cases h⟩
          | some t2 =>
            rw [h6] at e6'
            have w6 := v6 c.2 t2 rfl h6
            refine ⟨e6', fun r h => ?_⟩
            cases h
            subst w3 w4 w5 w6
            rfl
/-- An act that is read. -/
def ActTo (L q : Nat) (st : Option WS) (u u' : World) (e : Ending) : Prop := ∃ (k : Nat) (p0 p1 p2 p3 : Int) (ka : Option Addr) (kl kc : Nat) (zs : List Int) (c : Nat) (c0 c1 c2 c3 : Int) (t : List UInt8),
  e = .returned (.agg #[.int .i64 (k : Int), .int .i64 p0, .int .i64 p1, .int .i64 p2, .int .i64 p3, .slice ka kl kc, .int .i64 (c : Int), .int .i64 c0, .int .i64 c1, .int .i64 c2, .int .i64 c3, .string ⟨t.toArray⟩]) ∧ Keeps u' u.heap.size ka kl kc zs ∧
  Rd L q u' (st.bind fun ws => (stAct ws).map (·.2)) ∧ (∀ ws p, st = some ws → stAct ws = some p → p.1 = mkA k [p0, p1, p2, p3] zs ⟨c, [c0, c1, c2, c3]⟩ t) ∧ Sav q u u'
set_option maxRecDepth 100000 in
set_option maxHeartbeats 8000000 in
theorem act_rd (L q : Nat) (st : Option WS) (u : World) (h : Rd L q u st) (hL : L ≤ 140737488355328) (hT : ∀ U, Sav q u U → RdT U) :
    Calls Tryd.prog 57 #[.pointer (some ⟨q, 0, none⟩)] u fun e u' => ActTo L q st u u' e := by
  have zq := h.lt
  have HT : Hid (∀ U, Sav q u U → RdT U) := hT
  obtain ⟨W, hW⟩ : ∃ W : World, W = u.alloc (.cells #[.int .i64 0, .int .i64 0, .int .i64 0, .int .i64 0, .int .i64 0, .slice none 0 0, .int .i64 0, .int .i64 0, .int .i64 0, .int .i64 0, .int .i64 0, .string ⟨#[]⟩] 41) := ⟨_, rfl⟩
  have bW : Below u.heap.size u W := by rw [hW]; exact (Below.refl _ _).alloc (Nat.le_refl _) _
  have bxR : BoxN W u.heap.size 12 zAct := by rw [hW]; exact boxn_new u #[.int .i64 0, .int .i64 0, .int .i64 0, .int .i64 0, .int .i64 0, .slice none 0 0, .int .i64 0, .int .i64 0, .int .i64 0, .int .i64 0, .int .i64 0, .string ⟨#[]⟩] 41 12 rfl
  have hw := word_rd L q st W (h.below bW) (by omega)
  have HB : Hid (∀ U, Sav q W U → BoxN U u.heap.size 12 zAct ∧ Sav q u U) := fun U hU => ⟨hU.box bxR (by omega), (Sav.of bW).trans hU⟩
  have hK := fun (x : List UInt8) (U : World) (hU : Sav q W U) => actKind_any x U (HT.out U ((Sav.of bW).trans hU)).ln.2.2.1
  clear hT h bxR bW
  go_enter Tryd.func57, Tryd.ntmps57
  go_upto_region 1 with (fail)
  rw [← hW]
  clear hW
  go_upto_region 2 with (first | (go_at_call 75; refine hw.mono ?_; rintro e u1 ⟨X, rfl, hXl, hX, r1, s1⟩) | (go_at_call 74; refine (hK X _ s1).mono ?_; rintro e u2 ⟨rfl, rfl⟩))
  obtain ⟨K, eK⟩ : ∃ K, K = kindA X := ⟨_, rfl⟩
  have hK9 : K < 9 := by rw [eK]; exact kindA_lt X
  rw [← eK]
  have HK : Hid (K = kindA X) := eK
  have HX : Hid (∀ ws, st = some ws → X = ws.headD []) := hX
  obtain ⟨bxR, sR⟩ := HB.out u2 s1
  obtain ⟨st2, e2⟩ : ∃ st2, st2 = (if K = 0 then none else st.map List.tail) := ⟨_, rfl⟩
  have HE2 : Hid (st2 = (if K = 0 then none else st.map List.tail)) := e2
  obtain ⟨Y1, hY1⟩ : ∃ Y : World, Y = u2.alloc (.cells #[.int .i64 (K : Int), .int .i64 0, .int .i64 0, .int .i64 0, .int .i64 0, .slice none 0 0, .int .i64 0, .int .i64 0, .int .i64 0, .int .i64 0, .int .i64 0, .string ⟨#[]⟩] 41) := ⟨_, rfl⟩
  have bY1 : Below u2.heap.size u2 Y1 := by rw [hY1]; exact (Below.refl _ _).alloc (Nat.le_refl _) _
  have bxA : BoxN Y1 u2.heap.size 12 [.int .i64 (K : Int), .int .i64 0, .int .i64 0, .int .i64 0, .int .i64 0, .slice none 0 0, .int .i64 0, .int .i64 0, .int .i64 0, .int .i64 0, .int .i64 0, .string ⟨#[]⟩] := by rw [hY1]; exact boxn_new u2 #[.int .i64 (K : Int), .int .i64 0, .int .i64 0, .int .i64 0, .int .i64 0, .slice none 0 0, .int .i64 0, .int .i64 0, .int .i64 0, .int .i64 0, .int .i64 0, .string ⟨#[]⟩] 41 12 rfl
  obtain ⟨B, eB⟩ : ∃ B, B = u2.heap.size := ⟨_, rfl⟩
  have hBz : u.heap.size < B := by rw [eB]; exact bxR.lt
  have HP1 : Hid (BoxN Y1 u.heap.size 12 zAct ∧ BoxN Y1 B 12 [.int .i64 (K : Int), .int .i64 0, .int .i64 0, .int .i64 0, .int .i64 0, .slice none 0 0, .int .i64 0, .int .i64 0, .int .i64 0, .int .i64 0, .int .i64 0, .string ⟨#[]⟩] ∧ Rd L q Y1 (st.map List.tail) ∧ Sav q u Y1) := ⟨bxR.below bY1 bxR.lt, eB ▸ bxA, r1.below bY1, sR.trans (Sav.of bY1)⟩
  rw [← hY1, ← eB]
  clear hY1 eK hX r1 s1 hw hK e2 bxA bY1 bxR sR eB HB
  have c0 : Y1.cell? ⟨B, 0, none⟩ = some (.int .i64 (K : Int)) := (HP1.out.2.1.c 0 (by decide)).1
  have zB := HP1.out.2.1.lt
  go_upto_if 12 with (fail)
  go_cut [] from 13 to 16 (fun wc => BoxN wc u.heap.size 12 zAct ∧ BoxN wc B 12 [.int .i64 (K : Int), .int .i64 0, .int .i64 0, .int .i64 0, .int .i64 0, .slice none 0 0, .int .i64 0, .int .i64 0, .int .i64 0, .int .i64 0, .int .i64 0, .string ⟨#[]⟩] ∧ Rd L q wc st2 ∧ Sav q u wc)
  case first =>
    by_cases h0 : K = 0
    · have h0' : ((K : Int) == 0) = true := by simp [h0]
      obtain ⟨⟨wg, c2⟩, f2⟩ := HP1.out.2.2.1.wrongCell
      have z2 := HP1.out.2.2.1.lt
      have HF : Hid (BoxN (Y1.setCell ⟨q, 2, none⟩ (.bool true)) u.heap.size 12 zAct ∧ BoxN (Y1.setCell ⟨q, 2, none⟩ (.bool true)) B 12 [.int .i64 (K : Int), .int .i64 0, .int .i64 0, .int .i64 0, .int .i64 0, .slice none 0 0, .int .i64 0, .int .i64 0, .int .i64 0, .int .i64 0, .int .i64 0, .string ⟨#[]⟩] ∧ Rd L q (Y1.setCell ⟨q, 2, none⟩ (.bool true)) st2 ∧ Sav q u (Y1.setCell ⟨q, 2, none⟩ (.bool true))) := ⟨HP1.out.1.far (by omega), HP1.out.2.1.far (by omega), (by rw [HE2.out, if_pos h0]; exact HP1.out.2.2.1.wrong), HP1.out.2.2.2.set⟩
      clear HP1
      go_wp2
      go_meet
      case rel => exact HF.out
    · have h0' : ((K : Int) == 0) = false := by simp; omega
      have HF : Hid (BoxN Y1 u.heap.size 12 zAct ∧ BoxN Y1 B 12 [.int .i64 (K : Int), .int .i64 0, .int .i64 0, .int .i64 0, .int .i64 0, .slice none 0 0, .int .i64 0, .int .i64 0, .int .i64 0, .int .i64 0, .int .i64 0, .string ⟨#[]⟩] ∧ Rd L q Y1 st2 ∧ Sav q u Y1) := ⟨HP1.out.1, HP1.out.2.1, (by rw [HE2.out, if_neg h0]; exact HP1.out.2.2.1), HP1.out.2.2.2⟩
      clear HP1
      go_wp2
      go_meet
      case rel => exact HF.out
  case rest =>
    obtain ⟨bxR, bxA, r3, s3⟩ := hcut
    clear c0 zB HP1
    have HR3 : Hid (Rd L q wc st2) := r3
    have HS3 : Hid (Sav q u wc) := s3
    have HbR : Hid (BoxN wc u.heap.size 12 zAct) := bxR
    have HbA : Hid (BoxN wc B 12 [.int .i64 (K : Int), .int .i64 0, .int .i64 0, .int .i64 0, .int .i64 0, .slice none 0 0, .int .i64 0, .int .i64 0, .int .i64 0, .int .i64 0, .int .i64 0, .string ⟨#[]⟩]) := bxA
    have c0 : wc.cell? ⟨B, 0, none⟩ = some (.int .i64 (K : Int)) := (bxA.c 0 (by decide)).1
    have zB := bxA.lt
    have tc := (HT.out wc s3).ln.2.1
    have zt := tc.lt (by decide) (by decide)
    clear r3 s3 bxR bxA
    have f0 := tc K 0 hK9 (by decide)
    have f1 := tc K 1 hK9 (by decide)
    have f2 := tc K 2 hK9 (by decide)
    have f3 := tc K 3 hK9 (by decide)
    have f4 := tc K 4 hK9 (by decide)
    have f5 := tc K 5 hK9 (by decide)
    have f6 := tc K 6 hK9 (by decide)
    obtain ⟨h0, eh0⟩ : ∃ x, x = (aHas.getD K []).getD 0 false := ⟨_, rfl⟩
    obtain ⟨h1, eh1⟩ : ∃ x, x = (aHas.getD K []).getD 1 false := ⟨_, rfl⟩
    obtain ⟨h2, eh2⟩ : ∃ x, x = (aHas.getD K []).getD 2 false := ⟨_, rfl⟩
    obtain ⟨h3, eh3⟩ : ∃ x, x = (aHas.getD K []).getD 3 false := ⟨_, rfl⟩
    obtain ⟨h4, eh4⟩ : ∃ x, x = (aHas.getD K []).getD 4 false := ⟨_, rfl⟩
    obtain ⟨h5, eh5⟩ : ∃ x, x = (aHas.getD K []).getD 5 false := ⟨_, rfl⟩
    obtain ⟨h6, eh6⟩ : ∃ x, x = (aHas.getD K []).getD 6 false := ⟨_, rfl⟩
    rw [← eh0] at f0
    rw [← eh1] at f1
    rw [← eh2] at f2
    rw [← eh3] at f3
    rw [← eh4] at f4
    rw [← eh5] at f5
    rw [← eh6] at f6
    have HEH : Hid ((aHas.getD K []).take 4 = [h0, h1, h2, h3]) := by show _ = _; rw [aHas_take K hK9, ← eh0, ← eh1, ← eh2, ← eh3]
    have hh4 : h4 = decide (K = 6) := by rw [eh4, aHas_k4 K hK9]
    have hh5 : h5 = decide (K = 1) := by rw [eh5, aHas_k5 K hK9]
    have hh6 : h6 = decide (K = 8) := by rw [eh6, aHas_k6 K hK9]
    have HH : Hid (h4 = decide (K = 6) ∧ h5 = decide (K = 1) ∧ h6 = decide (K = 8)) := ⟨hh4, hh5, hh6⟩
    clear eh0 eh1 eh2 eh3 eh4 eh5 eh6 hh4 hh5 hh6
    simp only [Nat.add_zero] at f0
    have hKi : (K : Int) < 9 := by omega
    clear tc
    go_upto_region 6 with (fail)
    obtain ⟨Y, hY⟩ : ∃ Y : World, Y = (wc.alloc (.cells #[.bool h0, .bool h1, .bool h2, .bool h3, .bool h4, .bool h5, .bool h6] 80)).alloc (.cells #[.int .i64 0, .int .i64 0, .int .i64 0, .int .i64 0] 113) := ⟨_, rfl⟩
    have bY : Below wc.heap.size wc Y := by rw [hY]; exact ((Below.refl _ _).alloc (Nat.le_refl _) _).alloc (by simp) _
    have bx1 : BoxN Y wc.heap.size 7 [.bool h0, .bool h1, .bool h2, .bool h3, .bool h4, .bool h5, .bool h6] := by
      rw [hY]
      exact (boxn_new wc #[.bool h0, .bool h1, .bool h2, .bool h3, .bool h4, .bool h5, .bool h6] 80 7 rfl).below ((Below.refl _ _).alloc (Nat.le_refl _) _) (by simp)
    have bx2 : BoxN Y (wc.heap.size + 1) 4 ([0, 0, 0, 0].map intV) := by
      rw [hY]
      have := boxn_new (wc.alloc (.cells #[.bool h0, .bool h1, .bool h2, .bool h3, .bool h4, .bool h5, .bool h6] 80)) #[.int .i64 0, .int .i64 0, .int .i64 0, .int .i64 0] 113 4 rfl
      rw [show (wc.alloc (.cells #[.bool h0, .bool h1, .bool h2, .bool h3, .bool h4, .bool h5, .bool h6] 80)).heap.size = wc.heap.size + 1 by simp] at this
      exact this
    rw [← hY]
    clear hY f0 f1 f2 f3 f4 f5 f6 c0
    have hzq : q < wc.heap.size := HR3.out.lt
    have HNum : Hid (∀ U, Below Y.heap.size Y U → Calls Tryd.prog 76 #[.pointer (some ⟨q, 0, none⟩), .slice (some ⟨wc.heap.size, 0, none⟩) 4 7, .slice (some ⟨wc.heap.size + 1, 0, none⟩) 4 4] U fun e u' => e = .returned (.tuple #[]) ∧ ∃ ps, NumsTo L q (wc.heap.size + 1) [h0, h1, h2, h3] st2 Y u' ps) := fun U hU => by
      have b1 := bx1.below hU bx1.lt
      have b2 := bx2.below hU bx2.lt
      have sU : Sav q u U := (HS3.out.trans (Sav.of bY)).trans (Sav.of hU)
      refine (numbers_rd L q wc.heap.size (wc.heap.size + 1) 7 4 [h0, h1, h2, h3] st2 U ((HR3.out.below bY).below hU) hL rfl b2 b1.lt (by omega) (by omega) (by omega) (fun i hi => ?_) (fun V hV => (HT.out V (Sav2.sav sU hV (by have := HS3.out.size; omega))).rd)).mono (fun e u' ⟨e1, ps, n1, n2, n3, n4, n5⟩ => ⟨e1, ps, n1, n2, n3, n4, (Sav2.of (Sav.of hU)).trans n5⟩)
      rw [(b1.c i (by omega)).1]
      rcases (by omega : i = 0 ∨ i = 1 ∨ i = 2 ∨ i = 3) with rfl | rfl | rfl | rfl <;> rfl
    have HSY : Hid (Sav q u Y) := HS3.out.trans (Sav.of bY)
    have Hb1 : Hid (BoxN Y wc.heap.size 7 [.bool h0, .bool h1, .bool h2, .bool h3, .bool h4, .bool h5, .bool h6]) := bx1
    have HbRY : Hid (BoxN Y u.heap.size 12 zAct) := HbR.out.below bY HbR.out.lt
    have HbAY : Hid (BoxN Y B 12 [.int .i64 (K : Int), .int .i64 0, .int .i64 0, .int .i64 0, .int .i64 0, .slice none 0 0, .int .i64 0, .int .i64 0, .int .i64 0, .int .i64 0, .int .i64 0, .string ⟨#[]⟩]) := HbA.out.below bY HbA.out.lt
    have zWc := HS3.out.size
    have zY := bx1.lt
    clear bx1 bx2 bY HR3 HS3 HbR HbA
    go_region_with (first | (go_at_call 76; refine (HNum.out _ (by first | exact Below.refl _ _ | exact (Below.refl _ _).drew)).mono ?_; rintro e u5 ⟨rfl, ps, hps⟩))
    obtain ⟨hb5, hpl, hR5, hV5, hS5⟩ := hps
    match ps, hpl with
    | [p0, p1, p2, p3], _ =>
    have hSu := Sav2.sav HSY.out hS5 (by omega)
    obtain ⟨st3, e3⟩ : ∃ s, s = (st2.bind fun ws => (stNums [h0, h1, h2, h3] ws).map (·.2)) := ⟨_, rfl⟩
    have HE3 : Hid (st3 = (st2.bind fun ws => (stNums [h0, h1, h2, h3] ws).map (·.2))) := e3
    rw [← e3] at hR5
    have HV5 : Hid (∀ ws p, st2 = some ws → stNums [h0, h1, h2, h3] ws = some p → [p0, p1, p2, p3] = p.1) := hV5
    obtain ⟨b4, e4⟩ : ∃ b, b = wc.heap.size := ⟨_, rfl⟩
    rw [← e4] at hb5 Hb1 hS5 zWc zB zt ⊢
    have hzq4 : q < b4 := by omega
    have HA5 : Hid (ActSt L q u B b4 [.bool h0, .bool h1, .bool h2, .bool h3, .bool h4, .bool h5, .bool h6] [.int .i64 (K : Int), .int .i64 0, .int .i64 0, .int .i64 0, .int .i64 0, .slice none 0 0, .int .i64 0, .int .i64 0, .int .i64 0, .int .i64 0, .int .i64 0, .string ⟨#[]⟩] st3 u5) := ⟨HbRY.out.sav2 hS5 (by omega) (by omega), HbAY.out.sav2 hS5 (by omega) (by omega), Hb1.out.sav2 hS5 (by omega) (by omega), hR5, hSu⟩
    have a1 : u5.cell? ⟨B, 1, none⟩ = some (.int .i64 0) := (HA5.out.act.c 1 (by decide)).1
    have a2 : u5.cell? ⟨B, 2, none⟩ = some (.int .i64 0) := (HA5.out.act.c 2 (by decide)).1
    have a3 : u5.cell? ⟨B, 3, none⟩ = some (.int .i64 0) := (HA5.out.act.c 3 (by decide)).1
    have a4 : u5.cell? ⟨B, 4, none⟩ = some (.int .i64 0) := (HA5.out.act.c 4 (by decide)).1
    have f1 := (HA5.out.act.c 1 (by decide)).2
    have f2 := (HA5.out.act.c 2 (by decide)).2
    have f3 := (HA5.out.act.c 3 (by decide)).2
    have f4 := (HA5.out.act.c 4 (by decide)).2
    have g0 : u5.cell? ⟨b4 + 1, 0, none⟩ = some (.int .i64 p0) := (hb5.c 0 (by decide)).1
    have g1 : u5.cell? ⟨b4 + 1, 1, none⟩ = some (.int .i64 p1) := (hb5.c 1 (by decide)).1
    have g2 : u5.cell? ⟨b4 + 1, 2, none⟩ = some (.int .i64 p2) := (hb5.c 2 (by decide)).1
    have g3 : u5.cell? ⟨b4 + 1, 3, none⟩ = some (.int .i64 p3) := (hb5.c 3 (by decide)).1
    have z5 := HA5.out.act.lt
    have z6 := hb5.lt
    have hne : b4 + 1 ≠ B := by omega
    have HN : Hid (q < B ∧ u.heap.size < B ∧ B < b4 ∧ q < u.heap.size) := ⟨by omega, hBz, zB, zq⟩
    clear hb5 hR5 hS5 hV5 HNum HSY Hb1 HbRY HbAY e3 e4 hSu zY hzq zWc zt
    have HA6 : Hid (∀ V, V = (((u5.setCell ⟨B, 1, none⟩ (.int .i64 p0)).setCell ⟨B, 2, none⟩ (.int .i64 p1)).setCell ⟨B, 3, none⟩ (.int .i64 p2)).setCell ⟨B, 4, none⟩ (.int .i64 p3) → ActSt L q u B b4 [.bool h0, .bool h1, .bool h2, .bool h3, .bool h4, .bool h5, .bool h6] [.int .i64 (K : Int), .int .i64 p0, .int .i64 p1, .int .i64 p2, .int .i64 p3, .slice none 0 0, .int .i64 0, .int .i64 0, .int .i64 0, .int .i64 0, .int .i64 0, .string ⟨#[]⟩] st3 V) := by
      rintro V rfl
      obtain ⟨n1, n2, n3, n4⟩ := HN.out
      exact (((HA5.out.set 1 (by decide) (.int .i64 p0) n2 (by omega) (by omega)).set 2 (by decide) (.int .i64 p1) n2 (by omega) (by omega)).set 3 (by decide) (.int .i64 p2) n2 (by omega) (by omega)).set 4 (by decide) (.int .i64 p3) n2 (by omega) (by omega)
    go_upto_region 7 with (fail)
    go_region
    obtain ⟨u6, e6⟩ : ∃ V : World, V = (((u5.setCell ⟨B, 1, none⟩ (.int .i64 p0)).setCell ⟨B, 2, none⟩ (.int .i64 p1)).setCell ⟨B, 3, none⟩ (.int .i64 p2)).setCell ⟨B, 4, none⟩ (.int .i64 p3) := ⟨_, rfl⟩
    have HA7 : Hid (ActSt L q u B b4 [.bool h0, .bool h1, .bool h2, .bool h3, .bool h4, .bool h5, .bool h6] [.int .i64 (K : Int), .int .i64 p0, .int .i64 p1, .int .i64 p2, .int .i64 p3, .slice none 0 0, .int .i64 0, .int .i64 0, .int .i64 0, .int .i64 0, .int .i64 0, .string ⟨#[]⟩] st3 u6.drew) := (HA6.out u6 e6).drew
    rw [← e6]
    obtain ⟨u7, e7⟩ : ∃ V : World, V = u6.drew := ⟨_, rfl⟩
    rw [← e7] at HA7 ⊢
    clear a1 a2 a3 a4 f1 f2 f3 f4 g0 g1 g2 g3 z5 z6 hne HA5 HA6 e6 e7
    have q4 : u7.cell? ⟨b4, 4, none⟩ = some (.bool h4) := (HA7.out.has.c 4 (by decide)).1
    have zq4 := HA7.out.has.lt
    go_upto_if 37 with (fail)
    go_cut [] from 38 to 41 (fun wc => KeepSt L q u B b4 [.bool h0, .bool h1, .bool h2, .bool h3, .bool h4, .bool h5, .bool h6] [.int .i64 (K : Int), .int .i64 p0, .int .i64 p1, .int .i64 p2, .int .i64 p3] [.int .i64 0, .int .i64 0, .int .i64 0, .int .i64 0, .int .i64 0, .string ⟨#[]⟩] K st3 wc)
    case first =>
      cases h4 with
      | true =>
        have hk6 : K = 6 := of_decide_eq_true HH.out.1.symm
        have hkp := kept_rd L q st3 u7 HA7.out.rd hL (fun U hU => (HT.out U (HA7.out.sav.trans hU)).rd)
        have HF : Hid (∀ (v : World) (a : Option Addr) (n c : Nat) (zs : List Int), v.ownsRow u7.heap.size 3 1 (.slice a n c) n (St.flat iC zs) → zs.length = n → n ≤ 7 → (∀ z ∈ zs, i64n z) → Rd L q v (st3.bind fun ws => (stKept ws).map fun _ => ([] : WS)) → (∀ ws l, st3 = some ws → stKept ws = some l → zs = l.take 7) → Sav q u7 v → KeepSt L q u B b4 [.bool h0, .bool h1, .bool h2, .bool h3, .bool true, .bool h5, .bool h6] [.int .i64 (K : Int), .int .i64 p0, .int .i64 p1, .int .i64 p2, .int .i64 p3] [.int .i64 0, .int .i64 0, .int .i64 0, .int .i64 0, .int .i64 0, .string ⟨#[]⟩] K st3 (v.setCell ⟨B, 5, none⟩ (.slice a n c)) ∧ v.cell? ⟨B, 5, none⟩ = some (.slice none 0 0) ∧ v.frozen? ⟨B, 5, none⟩ = false ∧ B < v.heap.size) := fun v a n c zs h1 h2 h3 h3' h4 h5 h6 => by
          obtain ⟨n1, n2, n3, n4⟩ := HN.out
          have hA := HA7.out.on h6 h4 (by omega) (by omega) (by omega)
          have hz := HA7.out.act.lt
          refine ⟨⟨a, n, c, zs, _, hA.set 5 (by decide) (.slice a n c) n2 (by omega) (by omega), ⟨own_far (ownB h1 (by omega)) (by omega), h2, h3, h3'⟩, ?_, fun ws p e1 e2 => ?_⟩, (hA.act.c 5 (by decide)).1, (hA.act.c 5 (by decide)).2, hA.act.lt⟩
          · cases st3 with
            | none => rfl
            | some ws =>
              show Option.map _ _ = Option.map _ _
              unfold stKeep
              rw [if_pos hk6]
              cases stKept ws <;> rfl
          · unfold stKeep at e2
            rw [if_pos hk6] at e2
            cases e3 : stKept ws with
            | none => rw [e3] at e2; cases e2
            | some l =>
              rw [e3] at e2
              cases e2
              exact h5 ws l e1 e3
        clear HA7 q4 hk6
        go_wp2_with (go_at_call 77; refine hkp.mono ?_; rintro e v ⟨a9, n9, c9, zs9, rfl, k1, k2, k3, k4, k5, k6, k7⟩; obtain ⟨hK9b, w1, w2, w3⟩ := HF.out v a9 n9 c9 zs9 k1 k2 k3 k4 k5 k6 k7; have HK9 : Hid (KeepSt L q u B b4 [.bool h0, .bool h1, .bool h2, .bool h3, .bool true, .bool h5, .bool h6] [.int .i64 (K : Int), .int .i64 p0, .int .i64 p1, .int .i64 p2, .int .i64 p3] [.int .i64 0, .int .i64 0, .int .i64 0, .int .i64 0, .int .i64 0, .string ⟨#[]⟩] K st3 (v.setCell ⟨B, 5, none⟩ (.slice a9 n9 c9))) := hK9b; clear hK9b k1 k2 k3 k4 k5 k6 k7)
        go_meet
        case rel => exact HK9.out
      | false =>
        have hk6 : ¬ K = 6 := of_decide_eq_false HH.out.1.symm
        have HF : Hid (KeepSt L q u B b4 [.bool h0, .bool h1, .bool h2, .bool h3, .bool false, .bool h5, .bool h6] [.int .i64 (K : Int), .int .i64 p0, .int .i64 p1, .int .i64 p2, .int .i64 p3] [.int .i64 0, .int .i64 0, .int .i64 0, .int .i64 0, .int .i64 0, .string ⟨#[]⟩] K st3 u7) := by
          refine ⟨none, 0, 0, [], st3, HA7.out, ⟨⟨rfl, Or.inl ⟨rfl, rfl⟩⟩, rfl, by omega, (by intro z hz; cases hz)⟩, ?_, fun ws p e1 e2 => ?_⟩
          · cases st3 with
            | none => rfl
            | some ws => show _ = Option.map _ _; unfold stKeep; rw [if_neg hk6]; rfl
          · unfold stKeep at e2; rw [if_neg hk6] at e2; cases e2; rfl
        clear HA7 q4 hk6
        go_wp2
        go_meet
        case rel => exact HF.out
    case rest =>
      obtain ⟨ka, kl, kc, zs, st4, hA, hKp, e4, v4⟩ := hcut
      clear q4 zq4 HA7
      have HA8 : Hid (ActSt L q u B b4 [.bool h0, .bool h1, .bool h2, .bool h3, .bool h4, .bool h5, .bool h6] [.int .i64 (K : Int), .int .i64 p0, .int .i64 p1, .int .i64 p2, .int .i64 p3, .slice ka kl kc, .int .i64 0, .int .i64 0, .int .i64 0, .int .i64 0, .int .i64 0, .string ⟨#[]⟩] st4 wc) := hA
      have HKp : Hid (Keeps wc (B + 1) ka kl kc zs) := hKp
      have HE4 : Hid (st4 = (st3.bind fun ws => (stKeep K ws).map (·.2)) ∧ ∀ ws p, st3 = some ws → stKeep K ws = some p → zs = p.1.take 7) := ⟨e4, v4⟩
      have q5 : wc.cell? ⟨b4, 5, none⟩ = some (.bool h5) := (hA.has.c 5 (by decide)).1
      have zq5 := hA.has.lt
      clear hA hKp e4 v4
      go_upto_if 42 with (fail)
      go_cut [] from 43 to 46 (fun wc => CalledSt L q u B b4 [.bool h0, .bool h1, .bool h2, .bool h3, .bool h4, .bool h5, .bool h6] [.int .i64 (K : Int), .int .i64 p0, .int .i64 p1, .int .i64 p2, .int .i64 p3, .slice ka kl kc] [.string ⟨#[]⟩] K ka kl kc zs st4 wc)
      case first =>
        cases h5 with
        | true =>
          have hk6 : K = 1 := of_decide_eq_true HH.out.2.1.symm
          have hkp := call_rd L q st4 wc HA8.out.rd hL (fun U hU => HT.out U (HA8.out.sav.trans hU))
          have HF : Hid (∀ (v : World) (k : Nat) (c0 c1 c2 c3 : Int), Rd L q v (st4.bind fun ws => (stCall ws).map (·.2)) → (∀ ws p, st4 = some ws → stCall ws = some p → p.1 = ⟨k, [c0, c1, c2, c3]⟩) → Sav q wc v → CalledSt L q u B b4 [.bool h0, .bool h1, .bool h2, .bool h3, .bool h4, .bool true, .bool h6] [.int .i64 (K : Int), .int .i64 p0, .int .i64 p1, .int .i64 p2, .int .i64 p3, .slice ka kl kc] [.string ⟨#[]⟩] K ka kl kc zs st4 (((((v.setCell ⟨B, 6, none⟩ (.int .i64 (k : Int))).setCell ⟨B, 7, none⟩ (.int .i64 c0)).setCell ⟨B, 8, none⟩ (.int .i64 c1)).setCell ⟨B, 9, none⟩ (.int .i64 c2)).setCell ⟨B, 10, none⟩ (.int .i64 c3)) ∧ BoxN v B 12 [.int .i64 (K : Int), .int .i64 p0, .int .i64 p1, .int .i64 p2, .int .i64 p3, .slice ka kl kc, .int .i64 0, .int .i64 0, .int .i64 0, .int .i64 0, .int .i64 0, .string ⟨#[]⟩]) := fun v k c0 c1 c2 c3 h4 h5 h6 => by
            obtain ⟨n1, n2, n3, n4⟩ := HN.out
            have hA := HA8.out.on h6 h4 (by omega) (by omega) (by omega)
            have hz := HA8.out.act.lt
            have hKv : Keeps v (B + 1) ka kl kc zs := ⟨own_sav HKp.out.own h6 (by omega), HKp.out.len, HKp.out.most, HKp.out.all⟩
            have m : ∀ {V : World} {i : Nat} {x : Value}, Keeps V (B + 1) ka kl kc zs → Keeps (V.setCell ⟨B, i, none⟩ x) (B + 1) ka kl kc zs := fun h => ⟨own_far h.own (by omega), h.len, h.most, h.all⟩
            refine ⟨⟨k, c0, c1, c2, c3, _, ((((hA.set 6 (by decide) (.int .i64 (k : Int)) n2 (by omega) (by omega)).set 7 (by decide) (.int .i64 c0) n2 (by omega) (by omega)).set 8 (by decide) (.int .i64 c1) n2 (by omega) (by omega)).set 9 (by decide) (.int .i64 c2) n2 (by omega) (by omega)).set 10 (by decide) (.int .i64 c3) n2 (by omega) (by omega), m (m (m (m (m hKv)))), ?_, fun ws p e1 e2 => ?_⟩, hA.act⟩
            · cases st4 with
              | none => rfl
              | some ws =>
                show Option.map _ _ = Option.map _ _
                unfold stCalled
                rw [if_pos hk6]
            · unfold stCalled at e2
              rw [if_pos hk6] at e2
              exact h5 ws p e1 e2
          clear HA8 q5 hk6
          go_wp2_with (go_at_call 78; refine hkp.mono ?_; rintro e v ⟨k9, x0, x1, x2, x3, rfl, k5, k6, k7⟩; obtain ⟨hK9b, bxv⟩ := HF.out v k9 x0 x1 x2 x3 k5 k6 k7; have HK9 : Hid (CalledSt L q u B b4 [.bool h0, .bool h1, .bool h2, .bool h3, .bool h4, .bool true, .bool h6] [.int .i64 (K : Int), .int .i64 p0, .int .i64 p1, .int .i64 p2, .int .i64 p3, .slice ka kl kc] [.string ⟨#[]⟩] K ka kl kc zs st4 (((((v.setCell ⟨B, 6, none⟩ (.int .i64 (k9 : Int))).setCell ⟨B, 7, none⟩ (.int .i64 x0)).setCell ⟨B, 8, none⟩ (.int .i64 x1)).setCell ⟨B, 9, none⟩ (.int .i64 x2)).setCell ⟨B, 10, none⟩ (.int .i64 x3))) := hK9b; have j6 : v.cell? ⟨B, 6, none⟩ = some (.int .i64 0) := (bxv.c 6 (by decide)).1; have j7 : v.cell? ⟨B, 7, none⟩ = some (.int .i64 0) := (bxv.c 7 (by decide)).1; have j8 : v.cell? ⟨B, 8, none⟩ = some (.int .i64 0) := (bxv.c 8 (by decide)).1; have j9 : v.cell? ⟨B, 9, none⟩ = some (.int .i64 0) := (bxv.c 9 (by decide)).1; have j10 : v.cell? ⟨B, 10, none⟩ = some (.int .i64 0) := (bxv.c 10 (by decide)).1; have m6 := (bxv.c 6 (by decide)).2; have m7 := (bxv.c 7 (by decide)).2; have m8 := (bxv.c 8 (by decide)).2; have m9 := (bxv.c 9 (by decide)).2; have m10 := (bxv.c 10 (by decide)).2; have mz := bxv.lt; clear hK9b k5 k6 k7 bxv)
          go_meet
          case rel => exact HK9.out
        | false =>
          have hk6 : ¬ K = 1 := of_decide_eq_false HH.out.2.1.symm
          have HF : Hid (CalledSt L q u B b4 [.bool h0, .bool h1, .bool h2, .bool h3, .bool h4, .bool false, .bool h6] [.int .i64 (K : Int), .int .i64 p0, .int .i64 p1, .int .i64 p2, .int .i64 p3, .slice ka kl kc] [.string ⟨#[]⟩] K ka kl kc zs st4 wc) := by
            refine ⟨0, 0, 0, 0, 0, st4, HA8.out, HKp.out, ?_, fun ws p e1 e2 => ?_⟩
            · cases st4 with
              | none => rfl
              | some ws => show _ = Option.map _ _; unfold stCalled; rw [if_neg hk6]; rfl
            · unfold stCalled at e2; rw [if_neg hk6] at e2; cases e2; rfl
          clear HA8 q5 hk6
          go_wp2
          go_meet
          case rel => exact HF.out
      case rest =>
        obtain ⟨k9, c0, c1, c2, c3, st5, hA, hKq, e5, v5⟩ := hcut
        clear q5 zq5 HA8 HKp
        have HA9 : Hid (ActSt L q u B b4 [.bool h0, .bool h1, .bool h2, .bool h3, .bool h4, .bool h5, .bool h6] [.int .i64 (K : Int), .int .i64 p0, .int .i64 p1, .int .i64 p2, .int .i64 p3, .slice ka kl kc, .int .i64 (k9 : Int), .int .i64 c0, .int .i64 c1, .int .i64 c2, .int .i64 c3, .string ⟨#[]⟩] st5 wc) := hA
        have HKp : Hid (Keeps wc (B + 1) ka kl kc zs) := hKq
        have HE5 : Hid (st5 = (st4.bind fun ws => (stCalled K ws).map (·.2)) ∧ ∀ ws p, st4 = some ws → stCalled K ws = some p → p.1 = ⟨k9, [c0, c1, c2, c3]⟩) := ⟨e5, v5⟩
        have q6 : wc.cell? ⟨b4, 6, none⟩ = some (.bool h6) := (hA.has.c 6 (by decide)).1
        have zq6 := hA.has.lt
        clear hA hKq e5 v5
        go_upto_if 47 with (fail)
        go_cut [] from 48 to 50 (fun wc => LineSt L q u B b4 [.bool h0, .bool h1, .bool h2, .bool h3, .bool h4, .bool h5, .bool h6] [.int .i64 (K : Int), .int .i64 p0, .int .i64 p1, .int .i64 p2, .int .i64 p3, .slice ka kl kc, .int .i64 (k9 : Int), .int .i64 c0, .int .i64 c1, .int .i64 c2, .int .i64 c3] K ka kl kc zs st5 wc)
        case first =>
          cases h6 with
          | true =>
            have hk6 : K = 8 := of_decide_eq_true HH.out.2.2.symm
            have hkp := text_rd L q st5 wc HA9.out.rd hL
            have HF : Hid (∀ (v : World) (t : List UInt8), Rd L q v (st5.bind fun ws => (stText (ws.headD [])).map fun _ => ws.tail) → (∀ ws t', st5 = some ws → stText (ws.headD []) = some t' → t = t') → Sav q wc v → LineSt L q u B b4 [.bool h0, .bool h1, .bool h2, .bool h3, .bool h4, .bool h5, .bool true] [.int .i64 (K : Int), .int .i64 p0, .int .i64 p1, .int .i64 p2, .int .i64 p3, .slice ka kl kc, .int .i64 (k9 : Int), .int .i64 c0, .int .i64 c1, .int .i64 c2, .int .i64 c3] K ka kl kc zs st5 (v.setCell ⟨B, 11, none⟩ (.string ⟨t.toArray⟩)) ∧ v.cell? ⟨B, 11, none⟩ = some (.string ⟨#[]⟩) ∧ v.frozen? ⟨B, 11, none⟩ = false ∧ B < v.heap.size) := fun v t h4 h5 h6 => by
              obtain ⟨n1, n2, n3, n4⟩ := HN.out
              have hA := HA9.out.on h6 h4 (by omega) (by omega) (by omega)
              have hz := HA9.out.act.lt
              have hKv : Keeps v (B + 1) ka kl kc zs := ⟨own_sav HKp.out.own h6 (by omega), HKp.out.len, HKp.out.most, HKp.out.all⟩
              refine ⟨⟨t, _, hA.set 11 (by decide) (.string ⟨t.toArray⟩) n2 (by omega) (by omega), ⟨own_far hKv.own (by omega), hKv.len, hKv.most, hKv.all⟩, ?_, fun ws p e1 e2 => ?_⟩, (hA.act.c 11 (by decide)).1, (hA.act.c 11 (by decide)).2, hA.act.lt⟩
              · cases st5 with
                | none => rfl
                | some ws =>
                  show Option.map _ _ = Option.map _ _
                  unfold stLine
                  rw [if_pos hk6]
                  cases stText (ws.headD []) <;> rfl
              · unfold stLine at e2
                rw [if_pos hk6] at e2
                cases e3 : stText (ws.headD []) with
                | none => rw [e3] at e2; cases e2
                | some l =>
                  rw [e3] at e2
                  cases e2
                  exact h5 ws l e1 e3
            clear HA9 q6 hk6
            go_wp2_with (go_at_call 79; refine hkp.mono ?_; rintro e v ⟨t9, rfl, -, k5, k6, k7⟩; obtain ⟨hK9b, w1, w2, w3⟩ := HF.out v t9 k5 k6 k7; have HK9 : Hid (LineSt L q u B b4 [.bool h0, .bool h1, .bool h2, .bool h3, .bool h4, .bool h5, .bool true] [.int .i64 (K : Int), .int .i64 p0, .int .i64 p1, .int .i64 p2, .int .i64 p3, .slice ka kl kc, .int .i64 (k9 : Int), .int .i64 c0, .int .i64 c1, .int .i64 c2, .int .i64 c3] K ka kl kc zs st5 (v.setCell ⟨B, 11, none⟩ (.string ⟨t9.toArray⟩))) := hK9b; clear hK9b k5 k6 k7)
            go_meet
            case rel => exact HK9.out
          | false =>
            have hk6 : ¬ K = 8 := of_decide_eq_false HH.out.2.2.symm
            have HF : Hid (LineSt L q u B b4 [.bool h0, .bool h1, .bool h2, .bool h3, .bool h4, .bool h5, .bool false] [.int .i64 (K : Int), .int .i64 p0, .int .i64 p1, .int .i64 p2, .int .i64 p3, .slice ka kl kc, .int .i64 (k9 : Int), .int .i64 c0, .int .i64 c1, .int .i64 c2, .int .i64 c3] K ka kl kc zs st5 wc) := by
              refine ⟨[], st5, HA9.out, HKp.out, ?_, fun ws p e1 e2 => ?_⟩
              · cases st5 with
                | none => rfl
                | some ws => show _ = Option.map _ _; unfold stLine; rw [if_neg hk6]; rfl
              · unfold stLine at e2; rw [if_neg hk6] at e2; cases e2; rfl
            clear HA9 q6 hk6
            go_wp2
            go_meet
            case rel => exact HF.out
        case rest =>
          obtain ⟨t, st6, hA, hKq, e6, v6⟩ := hcut
          clear q6 zq6 HA9 HKp
          obtain ⟨F, hF⟩ : ∃ F : World, F = ((((((((((((wc.setCell ⟨u.heap.size, 0, none⟩ (.int .i64 (K : Int))).setCell ⟨u.heap.size, 1, none⟩ (.int .i64 p0)).setCell ⟨u.heap.size, 2, none⟩ (.int .i64 p1)).setCell ⟨u.heap.size, 3, none⟩ (.int .i64 p2)).setCell ⟨u.heap.size, 4, none⟩ (.int .i64 p3)).setCell ⟨u.heap.size, 5, none⟩ (.slice ka kl kc)).setCell ⟨u.heap.size, 6, none⟩ (.int .i64 (k9 : Int))).setCell ⟨u.heap.size, 7, none⟩ (.int .i64 c0)).setCell ⟨u.heap.size, 8, none⟩ (.int .i64 c1)).setCell ⟨u.heap.size, 9, none⟩ (.int .i64 c2)).setCell ⟨u.heap.size, 10, none⟩ (.int .i64 c3)).setCell ⟨u.heap.size, 11, none⟩ (.string ⟨t.toArray⟩)) := ⟨_, rfl⟩
          have r0 : wc.cell? ⟨u.heap.size, 0, none⟩ = some (.int .i64 0) := (hA.res.c 0 (by decide)).1
          have r1 : wc.cell? ⟨u.heap.size, 1, none⟩ = some (.int .i64 0) := (hA.res.c 1 (by decide)).1
          have r2 : wc.cell? ⟨u.heap.size, 2, none⟩ = some (.int .i64 0) := (hA.res.c 2 (by decide)).1
          have r3 : wc.cell? ⟨u.heap.size, 3, none⟩ = some (.int .i64 0) := (hA.res.c 3 (by decide)).1
          have r4 : wc.cell? ⟨u.heap.size, 4, none⟩ = some (.int .i64 0) := (hA.res.c 4 (by decide)).1
          have r5 : wc.cell? ⟨u.heap.size, 5, none⟩ = some (.slice none 0 0) := (hA.res.c 5 (by decide)).1
          have r6 : wc.cell? ⟨u.heap.size, 6, none⟩ = some (.int .i64 0) := (hA.res.c 6 (by decide)).1
          have r7 : wc.cell? ⟨u.heap.size, 7, none⟩ = some (.int .i64 0) := (hA.res.c 7 (by decide)).1
          have r8 : wc.cell? ⟨u.heap.size, 8, none⟩ = some (.int .i64 0) := (hA.res.c 8 (by decide)).1
          have r9 : wc.cell? ⟨u.heap.size, 9, none⟩ = some (.int .i64 0) := (hA.res.c 9 (by decide)).1
          have r10 : wc.cell? ⟨u.heap.size, 10, none⟩ = some (.int .i64 0) := (hA.res.c 10 (by decide)).1
          have r11 : wc.cell? ⟨u.heap.size, 11, none⟩ = some (.string ⟨#[]⟩) := (hA.res.c 11 (by decide)).1
          have w0 := (hA.res.c 0 (by decide)).2
          have w1 := (hA.res.c 1 (by decide)).2
          have w2 := (hA.res.c 2 (by decide)).2
          have w3 := (hA.res.c 3 (by decide)).2
          have w4 := (hA.res.c 4 (by decide)).2
          have w5 := (hA.res.c 5 (by decide)).2
          have w6 := (hA.res.c 6 (by decide)).2
          have w7 := (hA.res.c 7 (by decide)).2
          have w8 := (hA.res.c 8 (by decide)).2
          have w9 := (hA.res.c 9 (by decide)).2
          have w10 := (hA.res.c 10 (by decide)).2
          have w11 := (hA.res.c 11 (by decide)).2
          have y0 : wc.cell? ⟨B, 0, none⟩ = some (.int .i64 (K : Int)) := (hA.act.c 0 (by decide)).1
          have y1 : wc.cell? ⟨B, 1, none⟩ = some (.int .i64 p0) := (hA.act.c 1 (by decide)).1
          have y2 : wc.cell? ⟨B, 2, none⟩ = some (.int .i64 p1) := (hA.act.c 2 (by decide)).1
          have y3 : wc.cell? ⟨B, 3, none⟩ = some (.int .i64 p2) := (hA.act.c 3 (by decide)).1
          have y4 : wc.cell? ⟨B, 4, none⟩ = some (.int .i64 p3) := (hA.act.c 4 (by decide)).1
          have y5 : wc.cell? ⟨B, 5, none⟩ = some (.slice ka kl kc) := (hA.act.c 5 (by decide)).1
          have y6 : wc.cell? ⟨B, 6, none⟩ = some (.int .i64 (k9 : Int)) := (hA.act.c 6 (by decide)).1
          have y7 : wc.cell? ⟨B, 7, none⟩ = some (.int .i64 c0) := (hA.act.c 7 (by decide)).1
          have y8 : wc.cell? ⟨B, 8, none⟩ = some (.int .i64 c1) := (hA.act.c 8 (by decide)).1
          have y9 : wc.cell? ⟨B, 9, none⟩ = some (.int .i64 c2) := (hA.act.c 9 (by decide)).1
          have y10 : wc.cell? ⟨B, 10, none⟩ = some (.int .i64 c3) := (hA.act.c 10 (by decide)).1
          have y11 : wc.cell? ⟨B, 11, none⟩ = some (.string ⟨t.toArray⟩) := (hA.act.c 11 (by decide)).1
          have zr := hA.res.lt
          have za := hA.act.lt
          have kk0 : F.cell? ⟨u.heap.size, 0, none⟩ = some (.int .i64 (K : Int)) := by rw [hF]; go_simp
          have kk1 : F.cell? ⟨u.heap.size, 1, none⟩ = some (.int .i64 p0) := by rw [hF]; go_simp
          have kk2 : F.cell? ⟨u.heap.size, 2, none⟩ = some (.int .i64 p1) := by rw [hF]; go_simp
          have kk3 : F.cell? ⟨u.heap.size, 3, none⟩ = some (.int .i64 p2) := by rw [hF]; go_simp
          have kk4 : F.cell? ⟨u.heap.size, 4, none⟩ = some (.int .i64 p3) := by rw [hF]; go_simp
          have kk5 : F.cell? ⟨u.heap.size, 5, none⟩ = some (.slice ka kl kc) := by rw [hF]; go_simp
          have kk6 : F.cell? ⟨u.heap.size, 6, none⟩ = some (.int .i64 (k9 : Int)) := by rw [hF]; go_simp
          have kk7 : F.cell? ⟨u.heap.size, 7, none⟩ = some (.int .i64 c0) := by rw [hF]; go_simp
          have kk8 : F.cell? ⟨u.heap.size, 8, none⟩ = some (.int .i64 c1) := by rw [hF]; go_simp
          have kk9 : F.cell? ⟨u.heap.size, 9, none⟩ = some (.int .i64 c2) := by rw [hF]; go_simp
          have kk10 : F.cell? ⟨u.heap.size, 10, none⟩ = some (.int .i64 c3) := by rw [hF]; go_simp
          have kk11 : F.cell? ⟨u.heap.size, 11, none⟩ = some (.string ⟨t.toArray⟩) := by rw [hF]; go_simp
          have HFin : Hid (ActTo L q st u F (.returned (.agg #[.int .i64 (K : Int), .int .i64 p0, .int .i64 p1, .int .i64 p2, .int .i64 p3, .slice ka kl kc, .int .i64 (k9 : Int), .int .i64 c0, .int .i64 c1, .int .i64 c2, .int .i64 c3, .string ⟨t.toArray⟩]))) := by
            obtain ⟨n1, n2, n3, n4⟩ := HN.out
            have this : ∀ {v : World} {i : Nat} {x : Value}, Sav q u v → Sav q u (v.setCell ⟨u.heap.size, i, none⟩ x) := fun {v i x} hv => by
              have b := (Below.refl u.heap.size v).setCell (p := ⟨u.heap.size, i, none⟩) (Nat.le_refl _) x
              exact ⟨b.os.trans hv.os, b.tape.trans hv.tape, b.output.trans hv.output, Nat.le_trans hv.size b.size, fun j hj hq => (b.block j hj).trans (hv.block j hj hq)⟩
            have m : ∀ {V : World} {i : Nat} {x : Value}, V.ownsRow (B + 1) 3 1 (.slice ka kl kc) kl (St.flat iC zs) → (V.setCell ⟨u.heap.size, i, none⟩ x).ownsRow (B + 1) 3 1 (.slice ka kl kc) kl (St.flat iC zs) := fun h => own_far h (by omega)
            have hst : st6 = (st.bind fun ws => (stAct ws).map (·.2)) ∧ ∀ ws p, st = some ws → stAct ws = some p → p.1 = mkA K [p0, p1, p2, p3] zs ⟨k9, [c0, c1, c2, c3]⟩ t := by
              cases st with
              | none =>
                have h2 : st2 = none := by rw [HE2.out]; split <;> rfl
                have h3 : st3 = none := by rw [HE3.out, h2]; rfl
                have h4 : st4 = none := by rw [HE4.out.1, h3]; rfl
                have h5 : st5 = none := by rw [HE5.out.1, h4]; rfl
                exact ⟨by rw [e6, h5]; rfl, (fun ws p h => by cases h)⟩
              | some ws =>
                have hch := act_chain (ws := ws) (by rw [← HX.out ws rfl]; exact HK.out) HEH.out HE2.out HE3.out HV5.out HE4.out.1 HE4.out.2 HE5.out.1 HE5.out.2 e6 v6
                exact ⟨hch.1, fun ws2 p h => by cases h; exact hch.2 p⟩
            refine ⟨K, p0, p1, p2, p3, ka, kl, kc, zs, k9, c0, c1, c2, c3, t, rfl, ⟨?_, hKq.len, hKq.most, hKq.all⟩, ?_, hst.2, ?_⟩
            · rw [hF]
              exact ownB (m (m (m (m (m (m (m (m (m (m (m (m hKq.own)))))))))))) (by omega)
            · rw [← hst.1, hF]
              exact ((((((((((((((((((((((((hA.rd).far (by omega))).far (by omega))).far (by omega))).far (by omega))).far (by omega))).far (by omega))).far (by omega))).far (by omega))).far (by omega))).far (by omega))).far (by omega))).far (by omega))
            · rw [hF]
              exact (this (this (this (this (this (this (this (this (this (this (this (this hA.sav))))))))))))
          clear hA hKq HE2 HE3 HE4 HE5 HEH HV5 HK HX HT HH e6 v6
          go_wp2
          rw [← hF]
          refine bodyPost_ret (v := .agg #[.int .i64 (K : Int), .int .i64 p0, .int .i64 p1, .int .i64 p2, .int .i64 p3, .slice ka kl kc, .int .i64 (k9 : Int), .int .i64 c0, .int .i64 c1, .int .i64 c2, .int .i64 c3, .string ⟨t.toArray⟩]) (by simp [results, Tryd.results57, go_sem, kk0, kk1, kk2, kk3, kk4, kk5, kk6, kk7, kk8, kk9, kk10, kk11]) rfl HFin.out
end Go.Proofs.YtlaagfnoepcnlaaDoor.Ln
/- lines.readAct. -/
namespace Go.Proofs.YtlaagfnoepcnlaaDoor.Ln
open Go.ChangeShapes Go.WideShapes Go.ChangeAt Go.RowKit
open Go.Proofs.YtlaagfnoepcnlaaDoor.St (BoxN boxn_new own_below IsRow Elem flat own_isRow)
set_option linter.unusedVariables false

/-- The act, but for where its Keep lies. -/
def nk (a : AV) : AV := { a with ka := none, kc := 0 }
theorem flat_iC (zs : List Int) : St.flat iC zs = zs.map (Value.int .i64) := by
  induction zs with
  | nil => rfl
  | cons z r ih => simp only [flat, List.flatMap_cons] at ih ⊢; rw [ih]; rfl
theorem nums_all {zs : List Int} (h : ∀ z ∈ zs, i64n z) : Nums zs := by
  intro i
  by_cases hi : i < zs.length
  · have := h zs[i] (List.getElem_mem hi)
    simpa [List.getD, hi, i64n] using this
  · simp [List.getD, hi]
theorem ok_of {r : List UInt8} {en wr : Bool} {l : List UInt8} (h : rdOk r en wr ((stAct (spc 32 l)).map (·.2))) : (lnAct l).isSome = (en && !wr) := by
  unfold lnAct
  cases e : stAct (spc 32 l) with
  | none =>
    rw [e] at h
    have : wr = true := h
    subst this
    simp
  | some p =>
    obtain ⟨a, ws⟩ := p
    rw [e] at h
    obtain ⟨hw, h⟩ := h
    subst hw
    rcases h with ⟨he, -, hs⟩ | ⟨he, hs⟩
    · have hs : ws = [] := hs
      subst hs he
      rfl
    · have hs : ws = spc 32 r := hs
      subst he
      cases ws with
      | nil => exact absurd hs.symm (spc_ne 32 r)
      | cons x y => rfl
theorem ln_of {l : List UInt8} {a : AV} (h : lnAct l = some a) : stAct (spc 32 l) = some (a, []) := by
  unfold lnAct at h
  split at h
  · rename_i x e
    cases h
    exact e
  · cases h
/-- An act that is read of a line. -/
def ReadActTo (l : List UInt8) (w w' : World) (e : Ending) : Prop := ∃ a : AV, e = .returned (.tuple #[.agg a.cells.toArray, .bool (lnAct l).isSome]) ∧ w'.ownsRow w.heap.size 3 1 (.slice a.ka a.kl a.kc) a.kl (a.keep.map (Value.int .i64)) ∧ Nums a.keep ∧ a.keep.length = a.kl ∧ (∀ x, lnAct l = some x → x = nk a) ∧ Below w.heap.size w w'
set_option maxRecDepth 100000 in
set_option maxHeartbeats 8000000 in
theorem readAct_any (l : List UInt8) (w : World) (hl : l.length ≤ 140737488355328) (hT : ∀ U, Below w.heap.size w U → RdT U) :
    Calls Tryd.prog 29 #[.string ⟨l.toArray⟩] w fun e w' => ReadActTo l w w' e := by
  obtain ⟨W, hW⟩ : ∃ W : World, W = (w.alloc (.cells #[.int .i64 0, .int .i64 0, .int .i64 0, .int .i64 0, .int .i64 0, .slice none 0 0, .int .i64 0, .int .i64 0, .int .i64 0, .int .i64 0, .int .i64 0, .string ⟨#[]⟩] 41)).alloc (.cells #[.string ⟨l.toArray⟩, .bool false, .bool false] 99) := ⟨_, rfl⟩
  have bW : Below w.heap.size w W := by rw [hW]; exact ((Below.refl _ _).alloc (Nat.le_refl _) _).alloc (by simp) _
  have bxR : BoxN W w.heap.size 12 zAct := by
    rw [hW]
    exact (boxn_new w #[.int .i64 0, .int .i64 0, .int .i64 0, .int .i64 0, .int .i64 0, .slice none 0 0, .int .i64 0, .int .i64 0, .int .i64 0, .int .i64 0, .int .i64 0, .string ⟨#[]⟩] 41 12 rfl).below ((Below.refl _ _).alloc (Nat.le_refl _) _) (by simp)
  have bxQ : BoxN W (w.heap.size + 1) 3 (rdC l false false) := by
    rw [hW]
    have := boxn_new (w.alloc (.cells #[.int .i64 0, .int .i64 0, .int .i64 0, .int .i64 0, .int .i64 0, .slice none 0 0, .int .i64 0, .int .i64 0, .int .i64 0, .int .i64 0, .int .i64 0, .string ⟨#[]⟩] 41)) #[.string ⟨l.toArray⟩, .bool false, .bool false] 99 3 rfl
    rw [show (w.alloc (.cells #[.int .i64 0, .int .i64 0, .int .i64 0, .int .i64 0, .int .i64 0, .slice none 0 0, .int .i64 0, .int .i64 0, .int .i64 0, .int .i64 0, .int .i64 0, .string ⟨#[]⟩] 41)).heap.size = w.heap.size + 1 by simp] at this
    exact this
  have hRd : Rd l.length (w.heap.size + 1) W (some (spc 32 l)) := ⟨l, false, false, bxQ, Nat.le_refl _, rfl, Or.inr ⟨rfl, rfl⟩⟩
  have hA := act_rd l.length (w.heap.size + 1) (some (spc 32 l)) W hRd hl (fun U hU => hT U (bW.trans (hU.below (by omega) bW.size)))
  have HB : Hid (∀ U, Sav (w.heap.size + 1) W U → BoxN U w.heap.size 12 zAct ∧ Below w.heap.size w U) := fun U hU => ⟨hU.box bxR (by omega), bW.trans (hU.below (by omega) bW.size)⟩
  have HZ : Hid (w.heap.size ≤ W.heap.size) := bW.size
  clear hT bW bxR bxQ hRd
  go_enter Tryd.func29, Tryd.ntmps29
  go_upto_region 2 with (fail)
  rw [← hW]
  clear hW
  go_upto_region 3 with (go_at_call 57; refine hA.mono ?_; rintro e u ⟨k, p0, p1, p2, p3, ka, kl, kc, zs, c, c0, c1, c2, c3, t, rfl, hKp, hR, hV, hS⟩)
  obtain ⟨Y, hY⟩ : ∃ Y : World, Y = u.alloc (.cells #[.int .i64 (k : Int), .int .i64 p0, .int .i64 p1, .int .i64 p2, .int .i64 p3, .slice ka kl kc, .int .i64 (c : Int), .int .i64 c0, .int .i64 c1, .int .i64 c2, .int .i64 c3, .string ⟨t.toArray⟩] 41) := ⟨_, rfl⟩
  have bY : Below u.heap.size u Y := by rw [hY]; exact (Below.refl _ _).alloc (Nat.le_refl _) _
  have bxA : BoxN Y u.heap.size 12 [.int .i64 (k : Int), .int .i64 p0, .int .i64 p1, .int .i64 p2, .int .i64 p3, .slice ka kl kc, .int .i64 (c : Int), .int .i64 c0, .int .i64 c1, .int .i64 c2, .int .i64 c3, .string ⟨t.toArray⟩] := by rw [hY]; exact boxn_new u #[.int .i64 (k : Int), .int .i64 p0, .int .i64 p1, .int .i64 p2, .int .i64 p3, .slice ka kl kc, .int .i64 (c : Int), .int .i64 c0, .int .i64 c1, .int .i64 c2, .int .i64 c3, .string ⟨t.toArray⟩] 41 12 rfl
  rw [← hY]
  clear hY
  obtain ⟨bxR, bwu⟩ := HB.out u hS
  have bxR := bxR.below bY bxR.lt
  have bwY := bwu.trans (bY.mono bwu.size)
  obtain ⟨r, en, wg, bxQ, hrl, hok⟩ := hR
  have bxQ := bxQ.below bY bxQ.lt
  have HO : Hid ((lnAct l).isSome = (en && !wg)) := ok_of hok
  have q1 : Y.cell? ⟨w.heap.size + 1, 1, none⟩ = some (.bool en) := (bxQ.c 1 (by decide)).1
  have q2 : Y.cell? ⟨w.heap.size + 1, 2, none⟩ = some (.bool wg) := (bxQ.c 2 (by decide)).1
  have zq := bxQ.lt
  have r0 : Y.cell? ⟨w.heap.size, 0, none⟩ = some (.int .i64 0) := (bxR.c 0 (by decide)).1
  have r1 : Y.cell? ⟨w.heap.size, 1, none⟩ = some (.int .i64 0) := (bxR.c 1 (by decide)).1
  have r2 : Y.cell? ⟨w.heap.size, 2, none⟩ = some (.int .i64 0) := (bxR.c 2 (by decide)).1
  have r3 : Y.cell? ⟨w.heap.size, 3, none⟩ = some (.int .i64 0) := (bxR.c 3 (by decide)).1
  have r4 : Y.cell? ⟨w.heap.size, 4, none⟩ = some (.int .i64 0) := (bxR.c 4 (by decide)).1
  have r5 : Y.cell? ⟨w.heap.size, 5, none⟩ = some (.slice none 0 0) := (bxR.c 5 (by decide)).1
  have r6 : Y.cell? ⟨w.heap.size, 6, none⟩ = some (.int .i64 0) := (bxR.c 6 (by decide)).1
  have r7 : Y.cell? ⟨w.heap.size, 7, none⟩ = some (.int .i64 0) := (bxR.c 7 (by decide)).1
  have r8 : Y.cell? ⟨w.heap.size, 8, none⟩ = some (.int .i64 0) := (bxR.c 8 (by decide)).1
  have r9 : Y.cell? ⟨w.heap.size, 9, none⟩ = some (.int .i64 0) := (bxR.c 9 (by decide)).1
  have r10 : Y.cell? ⟨w.heap.size, 10, none⟩ = some (.int .i64 0) := (bxR.c 10 (by decide)).1
  have r11 : Y.cell? ⟨w.heap.size, 11, none⟩ = some (.string ⟨#[]⟩) := (bxR.c 11 (by decide)).1
  have w0 := (bxR.c 0 (by decide)).2
  have w1 := (bxR.c 1 (by decide)).2
  have w2 := (bxR.c 2 (by decide)).2
  have w3 := (bxR.c 3 (by decide)).2
  have w4 := (bxR.c 4 (by decide)).2
  have w5 := (bxR.c 5 (by decide)).2
  have w6 := (bxR.c 6 (by decide)).2
  have w7 := (bxR.c 7 (by decide)).2
  have w8 := (bxR.c 8 (by decide)).2
  have w9 := (bxR.c 9 (by decide)).2
  have w10 := (bxR.c 10 (by decide)).2
  have w11 := (bxR.c 11 (by decide)).2
  have y0 : Y.cell? ⟨u.heap.size, 0, none⟩ = some (.int .i64 (k : Int)) := (bxA.c 0 (by decide)).1
  have y1 : Y.cell? ⟨u.heap.size, 1, none⟩ = some (.int .i64 p0) := (bxA.c 1 (by decide)).1
  have y2 : Y.cell? ⟨u.heap.size, 2, none⟩ = some (.int .i64 p1) := (bxA.c 2 (by decide)).1
  have y3 : Y.cell? ⟨u.heap.size, 3, none⟩ = some (.int .i64 p2) := (bxA.c 3 (by decide)).1
  have y4 : Y.cell? ⟨u.heap.size, 4, none⟩ = some (.int .i64 p3) := (bxA.c 4 (by decide)).1
  have y5 : Y.cell? ⟨u.heap.size, 5, none⟩ = some (.slice ka kl kc) := (bxA.c 5 (by decide)).1
  have y6 : Y.cell? ⟨u.heap.size, 6, none⟩ = some (.int .i64 (c : Int)) := (bxA.c 6 (by decide)).1
  have y7 : Y.cell? ⟨u.heap.size, 7, none⟩ = some (.int .i64 c0) := (bxA.c 7 (by decide)).1
  have y8 : Y.cell? ⟨u.heap.size, 8, none⟩ = some (.int .i64 c1) := (bxA.c 8 (by decide)).1
  have y9 : Y.cell? ⟨u.heap.size, 9, none⟩ = some (.int .i64 c2) := (bxA.c 9 (by decide)).1
  have y10 : Y.cell? ⟨u.heap.size, 10, none⟩ = some (.int .i64 c3) := (bxA.c 10 (by decide)).1
  have y11 : Y.cell? ⟨u.heap.size, 11, none⟩ = some (.string ⟨t.toArray⟩) := (bxA.c 11 (by decide)).1
  have zr := bxR.lt
  have za := bxA.lt
  obtain ⟨F, hF⟩ : ∃ F : World, F = ((((((((((((Y.setCell ⟨w.heap.size, 0, none⟩ (.int .i64 (k : Int))).setCell ⟨w.heap.size, 1, none⟩ (.int .i64 p0)).setCell ⟨w.heap.size, 2, none⟩ (.int .i64 p1)).setCell ⟨w.heap.size, 3, none⟩ (.int .i64 p2)).setCell ⟨w.heap.size, 4, none⟩ (.int .i64 p3)).setCell ⟨w.heap.size, 5, none⟩ (.slice ka kl kc)).setCell ⟨w.heap.size, 6, none⟩ (.int .i64 (c : Int))).setCell ⟨w.heap.size, 7, none⟩ (.int .i64 c0)).setCell ⟨w.heap.size, 8, none⟩ (.int .i64 c1)).setCell ⟨w.heap.size, 9, none⟩ (.int .i64 c2)).setCell ⟨w.heap.size, 10, none⟩ (.int .i64 c3)).setCell ⟨w.heap.size, 11, none⟩ (.string ⟨t.toArray⟩)) := ⟨_, rfl⟩
  have kk0 : F.cell? ⟨w.heap.size, 0, none⟩ = some (.int .i64 (k : Int)) := by rw [hF]; go_simp
  have kk1 : F.cell? ⟨w.heap.size, 1, none⟩ = some (.int .i64 p0) := by rw [hF]; go_simp
  have kk2 : F.cell? ⟨w.heap.size, 2, none⟩ = some (.int .i64 p1) := by rw [hF]; go_simp
  have kk3 : F.cell? ⟨w.heap.size, 3, none⟩ = some (.int .i64 p2) := by rw [hF]; go_simp
  have kk4 : F.cell? ⟨w.heap.size, 4, none⟩ = some (.int .i64 p3) := by rw [hF]; go_simp
  have kk5 : F.cell? ⟨w.heap.size, 5, none⟩ = some (.slice ka kl kc) := by rw [hF]; go_simp
  have kk6 : F.cell? ⟨w.heap.size, 6, none⟩ = some (.int .i64 (c : Int)) := by rw [hF]; go_simp
  have kk7 : F.cell? ⟨w.heap.size, 7, none⟩ = some (.int .i64 c0) := by rw [hF]; go_simp
  have kk8 : F.cell? ⟨w.heap.size, 8, none⟩ = some (.int .i64 c1) := by rw [hF]; go_simp
  have kk9 : F.cell? ⟨w.heap.size, 9, none⟩ = some (.int .i64 c2) := by rw [hF]; go_simp
  have kk10 : F.cell? ⟨w.heap.size, 10, none⟩ = some (.int .i64 c3) := by rw [hF]; go_simp
  have kk11 : F.cell? ⟨w.heap.size, 11, none⟩ = some (.string ⟨t.toArray⟩) := by rw [hF]; go_simp
  obtain ⟨a, ea⟩ : ∃ a : AV, a = ⟨(k : Int), p0, p1, p2, p3, ka, kl, kc, (c : Int), c0, c1, c2, c3, ⟨t.toArray⟩, zs⟩ := ⟨_, rfl⟩
  have HFin : Hid (ReadActTo l w F.drew (.returned (.tuple #[.agg #[.int .i64 (k : Int), .int .i64 p0, .int .i64 p1, .int .i64 p2, .int .i64 p3, .slice ka kl kc, .int .i64 (c : Int), .int .i64 c0, .int .i64 c1, .int .i64 c2, .int .i64 c3, .string ⟨t.toArray⟩], .bool (lnAct l).isSome]))) := by
    have h9 := HZ.out
    have hz9 := hS.size
    have hYb : Y.ownsRow w.heap.size 3 1 (.slice ka kl kc) kl (zs.map (Value.int .i64)) := by rw [← flat_iC]; exact ownB (own_below hKp.own bY) h9
    refine ⟨a, by rw [ea]; rfl, ?_, by rw [ea]; exact nums_all hKp.all, by rw [ea]; exact hKp.len, fun x hx => ?_, ?_⟩
    · have hC : u.heap.size ≤ Y.heap.size := bY.size
      have hO : Y.ownsRow W.heap.size 3 1 (.slice ka kl kc) kl (zs.map (Value.int .i64)) := by rw [← flat_iC]; exact own_below hKp.own bY
      have hW1 : w.heap.size < W.heap.size := (HB.out W (Sav.refl _ _)).1.lt
      have m : ∀ {V : World} {i : Nat} {x : Value}, V.ownsRow W.heap.size 3 1 (.slice ka kl kc) kl (zs.map (Value.int .i64)) → (V.setCell ⟨w.heap.size, i, none⟩ x).ownsRow W.heap.size 3 1 (.slice ka kl kc) kl (zs.map (Value.int .i64)) := fun h => own_far h hW1
      have hF2 : F.ownsRow W.heap.size 3 1 (.slice ka kl kc) kl (zs.map (Value.int .i64)) := by rw [hF]; exact m (m (m (m (m (m (m (m (m (m (m (m hO)))))))))))
      rw [ea]
      exact ownB (own_below hF2 (Below.refl _ _).drew) h9
    · have h1 := ln_of hx
      have h2 : x = mkA k [p0, p1, p2, p3] zs ⟨c, [c0, c1, c2, c3]⟩ t := hV (spc 32 l) (x, []) rfl h1
      rw [ea, h2]
      show mkA k [p0, p1, p2, p3] zs ⟨c, [c0, c1, c2, c3]⟩ t = ⟨_, _, _, _, _, _, _, _, _, _, _, _, _, _, _⟩
      rw [← hKp.len]
      rfl
    · have m : ∀ {V : World} {i : Nat} {x : Value}, Below w.heap.size w V → Below w.heap.size w (V.setCell ⟨w.heap.size, i, none⟩ x) := fun h => h.setCell (by simp) _
      rw [hF]
      exact (m (m (m (m (m (m (m (m (m (m (m (m bwY)))))))))))).drew
  clear HB HZ bxR bwu bwY bxQ hrl hok hKp hV hS bxA bY ea hA
  have HH := HO.out
  cases en <;> cases wg
  all_goals
    go_region
    go_wp2
    rw [← hF]
    refine bodyPost_ret (v := .tuple #[.agg #[.int .i64 (k : Int), .int .i64 p0, .int .i64 p1, .int .i64 p2, .int .i64 p3, .slice ka kl kc, .int .i64 (c : Int), .int .i64 c0, .int .i64 c1, .int .i64 c2, .int .i64 c3, .string ⟨t.toArray⟩], .bool (lnAct l).isSome]) (by rw [HH]; simp [results, Tryd.results29, go_sem, kk0, kk1, kk2, kk3, kk4, kk5, kk6, kk7, kk8, kk9, kk10, kk11]) rfl HFin.out
end Go.Proofs.YtlaagfnoepcnlaaDoor.Ln
/- What is shown is read, and what is read is shown so: acts and lines, on plain data. -/
namespace Go.Proofs.YtlaagfnoepcnlaaDoor.Ln
set_option linter.unusedVariables false

/-- What an act that may be has, number by number. -/
structure ActFn (v : AV) : Prop where
  kind : 1 ≤ v.kind ∧ v.kind ≤ 8
  nums : only ((aHas.getD v.kind.toNat []).take 4) [v.site, v.to, v.label, v.pick] = true
  pos : ∀ z ∈ [v.site, v.to, v.label, v.pick], 0 ≤ z ∧ z ≤ 9223372036854775807
  keep : v.keep.length = v.kl ∧ v.kl ≤ 6 ∧ (∀ z ∈ v.keep, 0 ≤ z ∧ z ≤ 9223372036854775807) ∧ (v.kind ≠ 6 → v.kl = 0)
  call : v.kind ≠ 1 → v.c0 = 0 ∧ v.c1 = 0 ∧ v.c2 = 0 ∧ v.c3 = 0 ∧ v.c4 = 0
  call1 : v.kind = 1 → (1 ≤ v.c0 ∧ v.c0 ≤ 5) ∧ (∀ z ∈ [v.c1, v.c2, v.c3, v.c4], 0 ≤ z ∧ z ≤ 9223372036854775807) ∧ only (cHas.getD v.c0.toNat []) [v.c1, v.c2, v.c3, v.c4] = true
  line : v.kind ≠ 8 → v.line.size = 0
theorem nz_zero {c0 c1 c2 c3 c4 : Int} (h : one (nz c0 c1 c2 c3 c4) = 0) : c0 = 0 ∧ c1 = 0 ∧ c2 = 0 ∧ c3 = 0 ∧ c4 = 0 := by
  unfold one nz at h
  split at h
  · cases h
  · rename_i h7
    simp only [Bool.not_eq_true, Bool.not_eq_false', Bool.and_eq_true, beq_iff_eq] at h7
    omega
theorem act_fn {s : Int} {ls : List (Int × Int)} {p : Int} {v : AV} (hk : v.keep.length = v.kl) (h : actFault s ls p v = 0) : ActFn v := by
  have hc : cfgFault s ls p = 0 := by
    unfold actFault at h
    split at h
    · rename_i h1; exact absurd h h1
    · rename_i h1; simpa using h1
  have hz := cfg_zero hc
  unfold actFault at h
  rw [if_neg (by simp [hc])] at h
  split at h
  · cases h
  · rename_i hkd
    split at h
    · cases h
    · rename_i hin
      split at h
      · cases h
      · rename_i hon
        have hkd2 := inR_b (tr9 hkd)
        have hin2 := tr9 hin
        unfold actIn keepIn at hin2
        simp only [Bool.and_eq_true, decide_eq_true_eq, List.all_eq_true] at hin2
        obtain ⟨⟨⟨⟨q1, q2⟩, q3⟩, q4⟩, ⟨q5, q6⟩, q7⟩ := hin2
        have r4 := inR_b q4
        have r5 := inR_b q5
        have r6 := inR_b q6
        have r7 : 0 ≤ v.label ∧ v.label < (ls.length : Int) := by unfold plc at q7; simpa using q7
        have hs4 : s ≤ 4 ∧ ls.length ≤ 6 := by omega
        have hpos : ∀ z ∈ [v.site, v.to, v.label, v.pick], 0 ≤ z ∧ z ≤ 9223372036854775807 := by
          intro z hz
          simp only [List.mem_cons, List.not_mem_nil, or_false] at hz
          rcases hz with rfl | rfl | rfl | rfl <;> omega
        have hkp : ∀ z ∈ v.keep, 0 ≤ z ∧ z ≤ 9223372036854775807 := fun z hz => by have := inR_b (q2 z hz); omega
        have hon2 := tr9 hon
        have hcl : v.kind = 1 → (1 ≤ v.c0 ∧ v.c0 ≤ 5) ∧ (∀ z ∈ [v.c1, v.c2, v.c3, v.c4], 0 ≤ z ∧ z ≤ 9223372036854775807) ∧ only (cHas.getD v.c0.toNat []) [v.c1, v.c2, v.c3, v.c4] = true := fun k1 => by
          rw [if_pos k1] at h
          unfold callFault at h
          split at h
          · cases h
          · rename_i h0
            split at h
            · cases h
            · rename_i ht
              split at h
              · cases h
              · rename_i ho
                have h0' := inR_b (tr9 h0)
                have ht' := tr9 ht
                simp only [cTops, inTops, Bool.and_eq_true] at ht'
                have t1 := inR_b ht'.1
                have t2 := inR_b ht'.2.1
                have t3 := inR_b ht'.2.2.1
                have t4 := inR_b ht'.2.2.2.1
                refine ⟨h0', fun z hz => ?_, tr9 ho⟩
                simp only [List.mem_cons, List.not_mem_nil, or_false] at hz
                rcases hz with rfl | rfl | rfl | rfl <;> omega
        clear h hin hkd hon
        obtain ⟨kk, hkk⟩ : ∃ kk : Nat, v.kind = kk := ⟨v.kind.toNat, by omega⟩
        have hk9 : 1 ≤ kk ∧ kk ≤ 8 := by omega
        rw [hkk, Int.toNat_natCast] at hon2
        rcases (by omega : kk = 1 ∨ kk = 2 ∨ kk = 3 ∨ kk = 4 ∨ kk = 5 ∨ kk = 6 ∨ kk = 7 ∨ kk = 8) with rfl | rfl | rfl | rfl | rfl | rfl | rfl | rfl
        all_goals
          simp [aHas, aParts, only] at hon2
          refine ⟨hkd2, ?_, hpos, ⟨hk, by omega, hkp, fun hx => ?_⟩, fun hx => ?_, hcl, fun hx => ?_⟩
          · rw [hkk]; simp [aHas, only]; try omega
          · first | (exfalso; exact hx (by omega)) | omega
          · first | (exfalso; exact hx (by omega)) | exact nz_zero (by omega)
          · first | (exfalso; exact hx (by omega)) | (simp [hon2])
theorem wds_app (a b : List ByteArray) : wds (a ++ b) = wds a ++ wds b := by simp [wds]
theorem aHas_len (k : Nat) (hk : k < 9) : ((aHas.getD k []).take 4).length = 4 := by rw [aHas_take k hk]; rfl
theorem cHas_len (k : Nat) (hk : k < 6) : (cHas.getD k []).length = 4 := by
  rcases (by omega : k = 0 ∨ k = 1 ∨ k = 2 ∨ k = 3 ∨ k = 4 ∨ k = 5) with rfl | rfl | rfl | rfl | rfl | rfl <;> rfl
/-- Acts are read as they were shown. -/
theorem shown_act {v : AV} (h : ActFn v) : stAct (wds (actW v)) = some (nk v, []) := by
  obtain ⟨kd, st, to1, lb, pk1, ka, kl, kc, c0, c1, c2, c3, c4, ln, kp⟩ := v
  obtain ⟨hkd, hn, hpos, ⟨k1, k2, k3, k4⟩, hcl, hcl1, hln⟩ := h
  simp only at hkd hn hpos k1 k2 k3 k4 hcl hcl1 hln
  obtain ⟨k, rfl⟩ : ∃ k : Nat, kd = k := ⟨kd.toNat, by omega⟩
  have hk9 : 1 ≤ k ∧ k ≤ 8 := by omega
  rw [Int.toNat_natCast] at hn
  subst k1
  have e0 : wds (actW ⟨(k : Int), st, to1, lb, pk1, ka, kp.length, kc, c0, c1, c2, c3, c4, ln, kp⟩) = (aWord k).data.toList :: (wds (numsW ((aHas.getD k []).take 4) [st, to1, lb, pk1]) ++ (wds (kp.map wNum) ++ (wds (if k = 1 then callW c0 c1 c2 c3 c4 else []) ++ wds (if k = 8 then [txtW ln] else [])))) := by
    have i1 : ((k : Int) = 1) = (k = 1) := propext (by omega)
    have i8 : ((k : Int) = 8) = (k = 8) := propext (by omega)
    simp only [actW, Int.toNat_natCast, wds_app, List.append_assoc, i1, i8]
    rfl
  have hka : kindA (aWord k).data.toList = k := kindA_word ⟨k, by omega⟩
  unfold stAct
  rw [e0, List.headD_cons, List.tail_cons, hka, if_neg (by omega), stNums_words _ _ _ (by rw [aHas_len k (by omega)]; rfl) hn hpos]
  dsimp only
  have hkeep : ∀ R : WS, (k = 6 → R = []) → stKeep k (wds (kp.map wNum) ++ R) = some (kp, R) := fun R hR => by
    unfold stKeep
    by_cases h6 : k = 6
    · rw [if_pos h6, hR h6, List.append_nil, stKept_words kp k3]
      rfl
    · have hk0 := k4 (by omega)
      rw [if_neg h6]
      have : kp = [] := List.length_eq_zero_iff.1 hk0
      subst this
      rfl
  rw [hkeep _ (fun h6 => by rw [if_neg (by omega), if_neg (by omega)]; rfl)]
  dsimp only
  have hcall : ∀ R : WS, stCalled k (wds (if k = 1 then callW c0 c1 c2 c3 c4 else []) ++ R) = some (⟨c0.toNat, [c1, c2, c3, c4]⟩, R) := fun R => by
    unfold stCalled
    by_cases h1 : k = 1
    · obtain ⟨d1, d2, d3⟩ := hcl1 (by omega)
      rw [if_pos h1, if_pos h1]
      have hkc : kindC (cWord c0.toNat).data.toList = c0.toNat := kindC_word ⟨c0.toNat, by omega⟩
      have e1 : wds (callW c0 c1 c2 c3 c4) ++ R = (cWord c0.toNat).data.toList :: (wds (numsW (cHas.getD c0.toNat []) [c1, c2, c3, c4]) ++ R) := rfl
      unfold stCall
      rw [e1, List.headD_cons, List.tail_cons, hkc, if_neg (by omega), stNums_words _ _ _ (by rw [cHas_len _ (by omega)]; rfl) d3 d2]
      rfl
    · obtain ⟨d0, d1, d2, d3, d4⟩ := hcl (by omega)
      subst d0 d1 d2 d3 d4
      rw [if_neg h1, if_neg h1]
      rfl
  rw [hcall]
  dsimp only
  have hline : stLine k (wds (if k = 8 then [txtW ln] else [])) = some (ln.data.toList, []) := by
    unfold stLine
    by_cases h8 : k = 8
    · rw [if_pos h8, if_pos h8]
      have e1 : wds [txtW ln] = [txtL ln.data.toList] := by simp [wds, txtW]
      rw [e1, List.headD_cons, List.tail_cons, stText_txt]
      rfl
    · have hl := hln (by omega)
      rw [if_neg h8, if_neg h8]
      have : ln.data.toList = [] := by
        apply List.length_eq_zero_iff.1
        exact hl
      rw [this]
      rfl
  rw [hline]
  have hc0 : ((c0.toNat : Nat) : Int) = c0 := by
    by_cases h1 : (k : Int) = 1
    · have := (hcl1 h1).1; omega
    · have := (hcl h1).1; omega
  have ht : kp.take 7 = kp := List.take_of_length_le (by omega)
  simp [mkAct, nk, hc0, ht]
/-- And what is read is shown so. -/
theorem read_act {ws : WS} {a : AV} (h : stAct ws = some (a, [])) (hk : a.kl ≤ 6) : ws = wds (actW a) := by
  unfold stAct at h
  split at h
  · cases h
  · rename_i hK0
    obtain ⟨K, eK⟩ : ∃ K, K = kindA (ws.headD []) := ⟨_, rfl⟩
    have hK9 : K < 9 := by rw [eK]; exact kindA_lt _
    have hw : (aWord K).data.toList = ws.headD [] := by rw [eK]; exact kFind_word 9 0 hK0
    rw [← eK] at h hK0
    cases ws with
    | nil => exact absurd (by rw [eK]; rfl) hK0
    | cons x r =>
      rw [List.headD_cons] at hw
      rw [List.tail_cons] at h
      clear eK
      cases e1 : stNums ((aHas.getD K []).take 4) r with
      | none => rw [e1] at h; cases h
      | some p1 =>
        obtain ⟨ps, r1⟩ := p1
        obtain ⟨n1, n2⟩ := words_stNums _ _ _ _ e1
        rw [aHas_len K hK9] at n2
        rw [e1] at h
        dsimp only at h
        cases e2 : stKeep K r1 with
        | none => rw [e2] at h; cases h
        | some p2 =>
          obtain ⟨zs, r2⟩ := p2
          rw [e2] at h
          dsimp only at h
          cases e3 : stCalled K r2 with
          | none => rw [e3] at h; cases h
          | some p3 =>
            obtain ⟨c, r3⟩ := p3
            rw [e3] at h
            dsimp only at h
            cases e4 : stLine K r3 with
            | none => rw [e4] at h; cases h
            | some p4 =>
              obtain ⟨t, r4⟩ := p4
              rw [e4] at h
              cases h
              have hz : zs.take 7 = zs := by
                have : (zs.take 7).length ≤ 6 := hk
                rw [List.length_take] at this
                exact List.take_of_length_le (by omega)
              obtain ⟨p0, q1, q2, q3, rfl⟩ : ∃ a b c d, ps = [a, b, c, d] := by
                rcases ps with _ | ⟨a, _ | ⟨b, _ | ⟨c, _ | ⟨d, _ | ⟨e, l⟩⟩⟩⟩⟩ <;> simp at n2
                exact ⟨a, b, c, d, rfl⟩
              have m2 : r1 = wds (zs.map wNum) ++ r2 := by
                unfold stKeep at e2
                split at e2
                · cases e5 : stKept r1 with
                  | none => rw [e5] at e2; cases e2
                  | some l =>
                    rw [e5] at e2
                    cases e2
                    rw [List.append_nil]
                    exact words_stKept _ _ e5
                · cases e2
                  rfl
              have m3 : r2 = wds (if K = 1 then callW (c.kind : Int) (c.ps.getD 0 0) (c.ps.getD 1 0) (c.ps.getD 2 0) (c.ps.getD 3 0) else []) ++ r3 := by
                unfold stCalled at e3
                split at e3
                · rename_i h1
                  rw [if_pos h1]
                  unfold stCall at e3
                  split at e3
                  · cases e3
                  · rename_i hC0
                    obtain ⟨C, eC⟩ : ∃ C, C = kindC (r2.headD []) := ⟨_, rfl⟩
                    have hC6 : C < 6 := by rw [eC]; exact kindC_lt _
                    have hcw : (cWord C).data.toList = r2.headD [] := by rw [eC]; exact kFind_word 6 0 hC0
                    rw [← eC] at e3 hC0
                    cases r2 with
                    | nil => exact absurd (by rw [eC]; rfl) hC0
                    | cons y q =>
                      rw [List.headD_cons] at hcw
                      rw [List.tail_cons] at e3
                      cases e5 : stNums (cHas.getD C []) q with
                      | none => rw [e5] at e3; cases e3
                      | some p5 =>
                        obtain ⟨cs, r5⟩ := p5
                        obtain ⟨o1, o2⟩ := words_stNums _ _ _ _ e5
                        rw [cHas_len C hC6] at o2
                        rw [e5] at e3
                        cases e3
                        obtain ⟨b0, b1, b2, b3, rfl⟩ : ∃ a b c d, cs = [a, b, c, d] := by
                          rcases cs with _ | ⟨a, _ | ⟨b, _ | ⟨c, _ | ⟨d, _ | ⟨e, l⟩⟩⟩⟩⟩ <;> simp at o2
                          exact ⟨a, b, c, d, rfl⟩
                        rw [o1, ← hcw]
                        simp only [callW, Int.toNat_natCast]
                        rfl
                · rename_i h1
                  rw [if_neg h1]
                  cases e3
                  rfl
              have m4 : r3 = wds (if K = 8 then [txtW ⟨t.toArray⟩] else []) := by
                unfold stLine at e4
                split at e4
                · rename_i h8
                  rw [if_pos h8]
                  cases e5 : stText (r3.headD []) with
                  | none => rw [e5] at e4; cases e4
                  | some t2 =>
                    rw [e5] at e4
                    simp only [Option.map_some, Option.some.injEq, Prod.mk.injEq] at e4
                    obtain ⟨rfl, e6⟩ := e4
                    cases r3 with
                    | nil => cases e5
                    | cons y q =>
                      rw [List.tail_cons] at e6
                      subst e6
                      rw [List.headD_cons] at e5
                      rw [txt_stText e5]
                      simp [wds, txtW]
                · rename_i h8
                  rw [if_neg h8]
                  cases e4
                  rfl
              have i1 : ((K : Int) = 1) = (K = 1) := propext (by omega)
              have i8 : ((K : Int) = 8) = (K = 8) := propext (by omega)
              rw [n1, m2, m3, m4, ← hw]
              simp only [actW, mkAct, Int.toNat_natCast, wds_app, List.append_assoc, i1, i8, hz]
              rfl
end Go.Proofs.YtlaagfnoepcnlaaDoor.Ln
