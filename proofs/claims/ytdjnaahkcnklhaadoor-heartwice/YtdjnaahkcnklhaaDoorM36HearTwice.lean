/- Texts of this claim, one behind the other. -/
import Derived.Test.YtdjnaahkcnklhaaDoorM28HearTwice
import Derived.Test.YtdjnaahkcnklhaaDoorM29HearTwice
import Derived.Test.YtdjnaahkcnklhaaDoorM30HearTwice
import Derived.Test.YtdjnaahkcnklhaaDoorM35HearTwice
import Derived.Test.YtdjnaahkcnklhaaDoorM7HearTwice
import Derived.Test.YtdjnaahkcnklhaaDoorM9HearTwice
import Derived.Test.YtdjnaahkcnklhaaDoorM6HearTwice
import Derived.LoopTactic
import Derived.Deep.QuietTactic
import Derived.BigQuiet
/- A desk of raw numbers: reredoskeep.Desk. -/
namespace Go.Proofs.YtdjnaahkcnklhaaDoor.Co
open Go.ChangeShapes Go.WideShapes Go.ChangeAt Go.RowKit
open Go.Proofs.YtdjnaahkcnklhaaDoor.St (BoxN boxn_new own_below grown_setCell IsRow Elem flat flat_append own_isRow idxI)
open Go.Proofs.YtdjnaahkcnklhaaDoor.Pt (LS2 cfg_two two_any)
set_option linter.unusedVariables false

/-- The desk so far, in its box at d. -/
structure DkSt (s nl L : Int) (B d : Nat) (W wr : World) (nx : Int) (da : Option Addr) (N dc : Nat) : Prop where
  box : BoxN wr d 2 [.int .i64 nx, .slice da N dc]
  dk : ∃ bs js ix more, N = bs.length ∧ DeskAt wr B da N dc js ix more ∧ js.map JbV.bare = bs ∧ DOK s nl nx bs
  bel : Below d W wr
  le : B ≤ wr.heap.size
  lim : nx ≤ L
theorem DkSt.below {s nl L : Int} {B d : Nat} {W wr u : World} {nx : Int} {da : Option Addr} {N dc : Nat} (h : DkSt s nl L B d W wr nx da N dc) (hb : Below wr.heap.size wr u) : DkSt s nl L B d W u nx da N dc := by
  obtain ⟨bs, js, ix, more, h1, h2, h3, h4⟩ := h.dk
  exact ⟨h.box.below hb h.box.lt, ⟨bs, js, ix, more, h1, h2.below hb, h3, h4⟩, h.bel.trans (hb.mono (Nat.le_of_lt h.box.lt)), Nat.le_trans h.le hb.size, h.lim⟩
theorem DkSt.more {s nl L L' : Int} {B d : Nat} {W wr : World} {nx : Int} {da : Option Addr} {N dc : Nat} (h : DkSt s nl L B d W wr nx da N dc) (hL : L ≤ L') : DkSt s nl L' B d W wr nx da N dc := ⟨h.box, h.dk, h.bel, h.le, Int.le_trans h.lim hL⟩
def set2 (u : World) (d : Nat) (a b : Value) : World := (u.setCell ⟨d, 0, none⟩ a).setCell ⟨d, 1, none⟩ b
theorem DkSt.put {s nl L L' : Int} {B d : Nat} {W wr : World} {nx : Int} {da : Option Addr} {N dc : Nat} (h : DkSt s nl L B d W wr nx da N dc) (hd : d < B) {nx' : Int} {bs : List JbV} {D : Value} (hD : DkIs B wr D nx' bs) (hok : DOK s nl nx' bs ∧ nx' ≤ L') : ∃ da' dc', D = .agg #[.int .i64 nx', .slice da' bs.length dc'] ∧ DkSt s nl L' B d W (set2 wr d (.int .i64 nx') (.slice da' bs.length dc')) nx' da' bs.length dc' := by
  obtain ⟨a, c, js, ix, more, rfl, h2, h3⟩ := hD
  refine ⟨a, c, rfl, ⟨(h.box.set 0 (by decide) _).set 1 (by decide) _, ⟨bs, js, ix, more, rfl, (h2.aside hd 0 _).aside hd 1 _, h3, hok.1⟩, ?_, by simpa [set2] using h.le, hok.2⟩⟩
  exact (h.bel.setCell (p := ⟨d, 0, none⟩) (Nat.le_refl _) _).setCell (p := ⟨d, 1, none⟩) (Nat.le_refl _) _
theorem good_back {C : Cx} {nx : Int} {bs : List JbV} {m : MV} {r : St.RV} (h : DOK C.s C.ls.length nx bs) : DOK C.s C.ls.length (backNx C nx bs m r) (backJs C nx bs m r) := by
  unfold backNx backJs
  by_cases hz : hrErr C nx bs (backM C.me m r) = 0
  · rw [if_pos hz, if_pos hz]; exact good_hear hz
  · rw [if_neg hz, if_neg hz]; exact h
theorem next_comm {C : Cx} {t : Tn} {i : Nat} : (t.comm C i).next = t.next := by
  unfold Tn.comm
  split <;> rfl
theorem next_call {C : Cx} {nx : Int} {bs : List JbV} {room : Int} {x : ClV} (h : clErr C nx bs x.kind = 0) : (CallAns C nx bs room x).next ≤ nx + 1 := by
  unfold CallAns
  rw [if_pos h]
  have e : (tn0 nx bs).next = nx := rfl
  generalize tn0 nx bs = t at e
  subst e
  unfold Tn.call
  split
  · unfold Tn.begun
    split
    · show t.next ≤ t.next + 1; omega
    · exact Int.le_refl _
  · split
    · show t.next ≤ t.next + 1; omega
    · split
      · show t.next ≤ t.next + 1; omega
      · split
        · show t.next ≤ t.next + 1; omega
        · split
          · show t.next ≤ t.next + 1; omega
          · split
            · unfold Tn.check
              split
              · rw [next_comm]; show t.next ≤ t.next + 1; omega
              · show t.next ≤ t.next + 1; omega
            · show t.next ≤ t.next + 1; omega
theorem next_hear {C : Cx} {nx : Int} {bs : List JbV} {m : MV} (h : hrErr C nx bs m = 0) : (HearAns C nx bs m).next = nx := by
  unfold HearAns
  rw [if_pos h]
  have e : (tn0 nx bs).next = nx := rfl
  generalize tn0 nx bs = t at e
  subst e
  unfold Tn.heard
  split
  · split
    · rfl
    · unfold Tn.doubted
      split <;> rfl
  · split
    · rfl
    · split
      · unfold Tn.answered
        split
        · split
          · rfl
          · split <;> rfl
        · rfl
      · split
        · unfold Tn.sured
          split
          · split
            · split
              · rw [next_comm]
              · rfl
            · rfl
          · rfl
        · unfold Tn.acked
          split
          · split <;> rfl
          · rfl
theorem next_back {C : Cx} {nx : Int} {bs : List JbV} {m : MV} {r : St.RV} : backNx C nx bs m r = nx := by
  unfold backNx
  split
  · rename_i h; exact next_hear h
  · rfl
def MadeIs (S1 most : Int) (w w' : World) (e : Ending) : Prop := (∃ D nx bs, e = .returned D ∧ DkIs w.heap.size w' D nx bs ∧ DOK S1 2 nx bs ∧ nx ≤ 1 + most) ∧ Below w.heap.size w w'
set_option maxRecDepth 100000 in
set_option maxHeartbeats 16000000 in
theorem desk_made (S1 l me : Int) (g0 : Nat) (a : Option Addr) (len cap : Nat) (rs : List St.RV) (most : Int) (w : World) (hS1 : 1 ≤ S1) (hS3 : S1 ≤ 3) (hll : l = 0 ∨ l = 1) (hme : 0 ≤ me ∧ me ≤ S1 - 1) (hl : IsLabs w (some ⟨g0, 0, none⟩) 2 2 LS2) (hr : St.IsRaws w a len cap rs) (hT : ∀ U, Below w.heap.size w U → Tables U) (hmo : 0 ≤ most ∧ most ≤ 1000) :
    Calls Tryd.prog 8 #[.agg #[.int .i64 S1, .slice (some ⟨g0, 0, none⟩) 2 2, .int .i64 3], .int .i64 l, .int .i64 me, .slice a len cap, .int .i64 most] w fun e w' => MadeIs S1 most w w' e := by
  have hcf : cfgFault S1 LS2 3 = 0 := cfg_two hS1 (by omega) (by omega) (by omega)
  have hlen := hr.row.1
  have hmx : len ≤ cap ∧ cap ≤ maxLen := ⟨hr.row.2.1, hr.row.2.2.1⟩
  unfold maxLen at hmx
  obtain ⟨hmx1, hmx2⟩ := hmx
  obtain ⟨W, hW⟩ : ∃ W : World, W = ((w.alloc (.cells #[.int .i64 S1, .slice (some ⟨g0, 0, none⟩) 2 2, .int .i64 3] 25)).alloc (.cells #[.int .i64 0, .slice none 0 0] 29)).alloc (.cells #[.int .i64 1, .slice none 0 0] 29) := ⟨_, rfl⟩
  have bW : Below w.heap.size w W := by rw [hW]; exact (((Below.refl _ _).alloc (Nat.le_refl _) _).alloc (by simp) _).alloc (by simp; omega) _
  have zW : W.heap.size = w.heap.size + 3 := by rw [hW]; simp
  have db : BoxN W (w.heap.size + 2) 2 [.int .i64 1, .slice none 0 0] := by
    rw [hW]
    have := boxn_new ((w.alloc (.cells #[.int .i64 S1, .slice (some ⟨g0, 0, none⟩) 2 2, .int .i64 3] 25)).alloc (.cells #[.int .i64 0, .slice none 0 0] 29)) #[.int .i64 1, .slice none 0 0] 29 2 rfl
    simpa using this
  have c0 : W.cell? ⟨w.heap.size, 0, none⟩ = some (.int .i64 S1) := by rw [hW]; go_simp
  have c1 : W.cell? ⟨w.heap.size, 1, none⟩ = some (.slice (some ⟨g0, 0, none⟩) 2 2) := by rw [hW]; go_simp
  have c2 : W.cell? ⟨w.heap.size, 2, none⟩ = some (.int .i64 3) := by rw [hW]; go_simp
  have e0 : W.cell? ⟨w.heap.size + 1, 0, none⟩ = some (.int .i64 0) ∧ W.frozen? ⟨w.heap.size + 1, 0, none⟩ = false := by rw [hW]; constructor <;> go_simp
  have e1 : W.cell? ⟨w.heap.size + 1, 1, none⟩ = some (.slice none 0 0) ∧ W.frozen? ⟨w.heap.size + 1, 1, none⟩ = false := by rw [hW]; constructor <;> go_simp
  /- what lies still while the desk's own box is told -/
  have KC : Hid (∀ U, Below (w.heap.size + 2) W U → (w.heap.size + 3) ≤ U.heap.size → (U.cell? ⟨w.heap.size, 0, none⟩ = some (.int .i64 S1) ∧ U.cell? ⟨w.heap.size, 1, none⟩ = some (.slice (some ⟨g0, 0, none⟩) 2 2) ∧ U.cell? ⟨w.heap.size, 2, none⟩ = some (.int .i64 3)) ∧ BoxN U (w.heap.size + 1) 2 [.int .i64 0, .slice none 0 0] ∧ Below w.heap.size w U) := fun U hU hz => by
    have hw : Below w.heap.size w U := bW.trans (hU.mono (by omega))
    refine ⟨⟨(hU.cell (p := ⟨w.heap.size, 0, none⟩) (by show w.heap.size < _; omega)).trans c0, (hU.cell (p := ⟨w.heap.size, 1, none⟩) (by show w.heap.size < _; omega)).trans c1, (hU.cell (p := ⟨w.heap.size, 2, none⟩) (by show w.heap.size < _; omega)).trans c2⟩, ⟨rfl, by omega, fun i hi => ?_⟩, hw⟩
    have hb := hU.block (w.heap.size + 1) (by omega)
    rcases (by omega : i = 0 ∨ i = 1) with rfl | rfl
    · exact ⟨(World.cell?_of_block (a := ⟨w.heap.size + 1, 0, none⟩) hb).trans e0.1, (World.frozen?_of_block (a := ⟨w.heap.size + 1, 0, none⟩) hb).trans e0.2⟩
    · exact ⟨(World.cell?_of_block (a := ⟨w.heap.size + 1, 1, none⟩) hb).trans e1.1, (World.frozen?_of_block (a := ⟨w.heap.size + 1, 1, none⟩) hb).trans e1.2⟩
  have H0 : Hid (DkSt S1 2 1 (w.heap.size + 3) (w.heap.size + 2) W W 1 none 0 0) := ⟨db, ⟨[], [], [], [], rfl, deskAt_nil W _, rfl, ⟨⟨by omega, by omega⟩, by simp, (fun j hj => by cases hj), List.Pairwise.nil⟩⟩, Below.refl _ _, by omega, Int.le_refl _⟩
  have HL : Hid (∀ U, Below w.heap.size w U → IsLabs U (some ⟨g0, 0, none⟩) 2 2 LS2 ∧ St.IsRaws U a len cap rs ∧ ∀ V, Below U.heap.size U V → Tables V) := fun U hU => ⟨hl.below hU, hr.below hU, fun V hV => hT V (hU.trans (hV.mono hU.size))⟩
  have HLen : Hid (rs.length = len) := hlen
  have HSs : Hid (DOK S1 2 1 []) := ⟨⟨by omega, by omega⟩, by simp, (fun j hj => by cases hj), List.Pairwise.nil⟩
  clear c0 c1 c2 e0 e1 db hl hr hT hlen
  go_enter Tryd.func8, Tryd.ntmps8
  go_upto_region 3 with (fail)
  rw [← hW]
  clear hW
  go_loopw [12, 13, 14, 15, 16, 18, 19, 20, 21] (fun s12 _ _ _ _ _ _ _ _ wr => ∃ k : Nat, s12 = .int .i64 (k : Int) ∧ k ≤ len ∧ Hid ((k : Int) ≤ most) ∧ Hid (∃ nx da N dc, DkSt S1 2 (1 + (k : Int)) (w.heap.size + 3) (w.heap.size + 2) W wr nx da N dc)) (fun s12 _ _ _ _ _ _ _ _ _ => len - (intOf s12).toNat)
  case atStart => exact ⟨0, rfl, Nat.zero_le _, hmo.1, ⟨1, none, 0, 0, H0.out⟩⟩
  case round =>
    obtain ⟨k, rfl, hk, HKM, hI⟩ := hrel
    obtain ⟨nx, da, N, dc, hS⟩ := hI.out
    obtain ⟨⟨c0, c1, c2⟩, rbx, hww⟩ := KC.out wr hS.bel hS.le
    obtain ⟨hlw, hrw, hTw⟩ := HL.out wr hww
    by_cases hlt : k < len
    · have hlt' : (k : Int) < (len : Int) := by omega
      by_cases hmst : (k : Int) < most
      · have HMS : Hid ((k : Int) < most) := hmst
        have zwr : w.heap.size + 3 ≤ wr.heap.size := hS.le
        have hrow := hrw.row
        have hrok := hrw.ok
        obtain ⟨b, off, rfl, zb, hcr⟩ := hrow.2.2.2.2 (by omega)
        have hkc : k < cap := by omega
        have hcells := hcr k hlt
        have hkr := hrok _ (mem_at (l := rs) (i := k) (by rw [HLen.out]; exact hlt))
        obtain ⟨rv, erv⟩ : ∃ rv, rv = rs.getD k default := ⟨_, rfl⟩
        rw [← erv] at hcells hkr
        clear erv hcr hrow hrok hrw
        obtain ⟨rk, ra, rb, rc, rd, re⟩ := rv
        have hkr2 := hkr
        obtain ⟨bk, ba, bb, bc, bd, be⟩ := hkr
        simp only [St.Bd] at bk ba bb bc bd be
        have a0 := hcells 0 (by decide)
        have a1 := hcells 1 (by decide)
        have a2 := hcells 2 (by decide)
        have a3 := hcells 3 (by decide)
        have a4 := hcells 4 (by decide)
        have a5 := hcells 5 (by decide)
        simp only [St.RV.cells, List.getElem?_cons_zero, List.getElem?_cons_succ, Nat.add_zero] at a0 a1 a2 a3 a4 a5
        clear hcells
        obtain ⟨V, hV⟩ : ∃ V : World, V = wr.alloc (.cells #[.int .i64 rk, .int .i64 ra, .int .i64 rb, .int .i64 rc, .int .i64 rd, .int .i64 re] 55) := ⟨_, rfl⟩
        have bV : Below wr.heap.size wr V := by rw [hV]; exact (Below.refl _ _).alloc (Nat.le_refl _) _
        have rwb : BoxN V wr.heap.size 6 [.int .i64 rk, .int .i64 ra, .int .i64 rb, .int .i64 rc, .int .i64 rd, .int .i64 re] := by rw [hV]; exact boxn_new wr #[.int .i64 rk, .int .i64 ra, .int .i64 rb, .int .i64 rc, .int .i64 rd, .int .i64 re] 55 6 rfl
        have hPk := fun u => picked_any rk 3 u bk (by omega) (by omega)
        have hPe := fun u => picked_any re 3 u be (by omega) (by omega)
        have hpk := pk_bd rk 3 (by omega)
        obtain ⟨PK, ePK⟩ : ∃ PK, PK = pk rk 3 := ⟨_, rfl⟩
        rw [← ePK] at hPk hpk
        clear ePK
        obtain ⟨PE, ePE⟩ : ∃ PE, PE = pk re 3 := ⟨_, rfl⟩
        rw [← ePE] at hPe
        clear ePE
        go_upto_region 6 with (fail)
        rw [← hV]
        clear hV a0 a1 a2 a3 a4 a5 c0 c1 c2
        replace hS := hS.below bV
        have v0 : V.cell? ⟨wr.heap.size, 0, none⟩ = some (.int .i64 rk) := (rwb.c 0 (by decide)).1
        have v1 : V.cell? ⟨wr.heap.size, 1, none⟩ = some (.int .i64 ra) := (rwb.c 1 (by decide)).1
        have v2 : V.cell? ⟨wr.heap.size, 2, none⟩ = some (.int .i64 rb) := (rwb.c 2 (by decide)).1
        have v3 : V.cell? ⟨wr.heap.size, 3, none⟩ = some (.int .i64 rc) := (rwb.c 3 (by decide)).1
        have v4 : V.cell? ⟨wr.heap.size, 4, none⟩ = some (.int .i64 rd) := (rwb.c 4 (by decide)).1
        have v5 : V.cell? ⟨wr.heap.size, 5, none⟩ = some (.int .i64 re) := (rwb.c 5 (by decide)).1
        have zrw := rwb.lt
        obtain ⟨⟨c0, c1, c2⟩, -, hwV⟩ := KC.out V hS.bel hS.le
        by_cases hp : 0 < PK
        · have hdv := tdiv_bd (n := rc) (m := 9) bc (by decide)
          have HAk : Hid (Calls Tryd.prog 16 #[.agg #[.int .i64 (rc.tdiv 9), .int .i64 ra, .int .i64 rb, .int .i64 rc, .int .i64 rd, .int .i64 0]] V fun e w' => ∃ c0 c1 c2 c3 c4 : Int, e = .returned (.agg #[.int .i64 c0, .int .i64 c1, .int .i64 c2, .int .i64 c3, .int .i64 c4]) ∧ (0 ≤ c3 ∧ c3 ≤ 3) ∧ Below V.heap.size V w') := ask_any (rc.tdiv 9) ra rb rc rd 0 V hdv ba bb bc bd
          go_upto_region 8 with (first | (go_at_call 9; refine (hPk _).mono ?_; rintro e u ⟨rfl, hu⟩; rw [hu]; clear hu) | (go_at_call 16; refine HAk.out.mono ?_; rintro e y1 ⟨x0, x1, x2, x3, x4, rfl, -, hb1⟩))
          obtain ⟨X, hX⟩ : ∃ X : World, X = y1.alloc (.cells #[.int .i64 x0, .int .i64 x1, .int .i64 x2, .int .i64 x3, .int .i64 x4] 43) := ⟨_, rfl⟩
          have bX1 : Below y1.heap.size y1 X := by rw [hX]; exact (Below.refl _ _).alloc (Nat.le_refl _) _
          have xb : BoxN X y1.heap.size 5 [.int .i64 x0, .int .i64 x1, .int .i64 x2, .int .i64 x3, .int .i64 x4] := by rw [hX]; exact boxn_new y1 #[.int .i64 x0, .int .i64 x1, .int .i64 x2, .int .i64 x3, .int .i64 x4] 43 5 rfl
          rw [← hX]
          have bX := nT hb1 bX1
          clear hX v0 v1 v2 v3 v4 v5 c0 c1 c2 HAk
          replace hS := hS.below bX
          replace rwb := rwb.below bX rwb.lt
          obtain ⟨⟨c0, c1, c2⟩, -, hwX⟩ := KC.out X hS.bel hS.le
          have d0 : X.cell? ⟨w.heap.size + 2, 0, none⟩ = some (.int .i64 nx) := (hS.box.c 0 (by decide)).1
          have d1 : X.cell? ⟨w.heap.size + 2, 1, none⟩ = some (.slice da N dc) := (hS.box.c 1 (by decide)).1
          have zd := hS.box.lt
          have x0c : X.cell? ⟨y1.heap.size, 0, none⟩ = some (.int .i64 x0) := (xb.c 0 (by decide)).1
          have x1c : X.cell? ⟨y1.heap.size, 1, none⟩ = some (.int .i64 x1) := (xb.c 1 (by decide)).1
          have x2c : X.cell? ⟨y1.heap.size, 2, none⟩ = some (.int .i64 x2) := (xb.c 2 (by decide)).1
          have x3c : X.cell? ⟨y1.heap.size, 3, none⟩ = some (.int .i64 x3) := (xb.c 3 (by decide)).1
          have x4c : X.cell? ⟨y1.heap.size, 4, none⟩ = some (.int .i64 x4) := (xb.c 4 (by decide)).1
          have zx := xb.lt
          obtain ⟨bs, js, ix, more, hN, hDk, hbs, hok⟩ := hS.dk
          have HCl : Hid (Calls Tryd.prog 11 #[.agg #[.int .i64 S1, .slice (some ⟨g0, 0, none⟩) 2 2, .int .i64 3], .int .i64 l, .int .i64 me, .agg #[.int .i64 nx, .slice da N dc], .int .i64 6000, .agg #[.int .i64 x0, .int .i64 x1, .int .i64 x2, .int .i64 x3, .int .i64 x4]] X fun e w' => ∃ (v' : CkV) (ix' : List (Nat × Nat)) (more' : List Rw), e = .returned (.tuple #[v'.turn, .int .i64 (clErr ⟨S1, LS2, 3, l, me⟩ nx bs x0)]) ∧ Live X.heap.size w' v' ix' more' (CallAns ⟨S1, LS2, 3, l, me⟩ nx bs 6000 ⟨x0, x1, x2, x3, x4⟩) ∧ Below X.heap.size X w') := by
            rw [hN] at hDk ⊢
            exact call_dk S1 3 (some ⟨g0, 0, none⟩) 2 2 LS2 l me nx da dc bs 6000 ⟨x0, x1, x2, x3, x4⟩ X (HL.out X hwX).1 hDk hbs
          have HGd : Hid (clErr ⟨S1, LS2, 3, l, me⟩ nx bs x0 = 0 → DOK S1 2 (CallAns ⟨S1, LS2, 3, l, me⟩ nx bs 6000 ⟨x0, x1, x2, x3, x4⟩).next (CallAns ⟨S1, LS2, 3, l, me⟩ nx bs 6000 ⟨x0, x1, x2, x3, x4⟩).js ∧ (CallAns ⟨S1, LS2, 3, l, me⟩ nx bs 6000 ⟨x0, x1, x2, x3, x4⟩).next ≤ 2 + (k : Int)) := fun h => ⟨good_call (C := ⟨S1, LS2, 3, l, me⟩) (x := ⟨x0, x1, x2, x3, x4⟩) h, by have h8 := next_call (C := ⟨S1, LS2, 3, l, me⟩) (room := 6000) (x := ⟨x0, x1, x2, x3, x4⟩) h; have h9 := hS.lim; omega⟩
          obtain ⟨T, eT⟩ : ∃ T, T = CallAns ⟨S1, LS2, 3, l, me⟩ nx bs 6000 ⟨x0, x1, x2, x3, x4⟩ := ⟨_, rfl⟩
          obtain ⟨E, eE⟩ : ∃ E, E = clErr ⟨S1, LS2, 3, l, me⟩ nx bs x0 := ⟨_, rfl⟩
          rw [← eT] at HCl HGd
          rw [← eE] at HCl HGd
          have HS : Hid (DkSt S1 2 (1 + (k : Int)) (w.heap.size + 3) (w.heap.size + 2) W X nx da N dc) := hS
          clear eT eE hDk hbs hok hN hS
          go_upto_region 9 with (go_at_call 11; refine HCl.out.mono ?_; rintro e y ⟨V2, iz, mz, rfl, hLv, hby⟩; simp only [CkV.turn])
          obtain ⟨Z, eZ⟩ : ∃ Z : World, Z = y.alloc (.cells #[.int .i64 V2.next, .slice V2.ja V2.jl V2.jc, .slice V2.ma V2.ml V2.mc, .slice V2.ra V2.rl V2.rc, .slice V2.pa V2.pl V2.pc, .int .i64 V2.sure, .int .i64 V2.com] 39) := ⟨_, rfl⟩
          have bZ : Below y.heap.size y Z := by rw [eZ]; exact (Below.refl _ _).alloc (Nat.le_refl _) _
          have tb : BoxN Z y.heap.size 7 [.int .i64 V2.next, .slice V2.ja V2.jl V2.jc, .slice V2.ma V2.ml V2.mc, .slice V2.ra V2.rl V2.rc, .slice V2.pa V2.pl V2.pc, .int .i64 V2.sure, .int .i64 V2.com] := by rw [eZ]; exact boxn_new y #[.int .i64 V2.next, .slice V2.ja V2.jl V2.jc, .slice V2.ma V2.ml V2.mc, .slice V2.ra V2.rl V2.rc, .slice V2.pa V2.pl V2.pc, .int .i64 V2.sure, .int .i64 V2.com] 39 7 rfl
          rw [← eZ]
          have bXZ := nT hby bZ
          clear eZ d0 d1 c0 c1 c2 x0c x1c x2c x3c x4c xb
          have hSZ := HS.out.below bXZ
          have hLZ := hLv.below bZ
          have rwZ := rwb.below bXZ rwb.lt
          clear hLv HCl rwb
          have hbase : w.heap.size + 3 ≤ X.heap.size := HS.out.le
          by_cases hE : E = 0
          · subst hE
            have hok := HGd.out rfl
            obtain ⟨da2, dc2, eD, hS2⟩ := hSZ.put (by omega) ((hLZ.base hbase).dk) hok
            have t0 : Z.cell? ⟨y.heap.size, 0, none⟩ = some (.int .i64 V2.next) := (tb.c 0 (by decide)).1
            have t1 : Z.cell? ⟨y.heap.size, 1, none⟩ = some (.slice V2.ja V2.jl V2.jc) := (tb.c 1 (by decide)).1
            have zt := tb.lt
            have d0 : Z.cell? ⟨w.heap.size + 2, 0, none⟩ = some (.int .i64 nx) := (hSZ.box.c 0 (by decide)).1
            have d1 : Z.cell? ⟨w.heap.size + 2, 1, none⟩ = some (.slice da N dc) := (hSZ.box.c 1 (by decide)).1
            have df0 := (hSZ.box.c 0 (by decide)).2
            have df1 := (hSZ.box.c 1 (by decide)).2
            have zd := hSZ.box.lt
            have hdy : w.heap.size + 2 < y.heap.size := by have := hby.size; omega
            have tb2 : BoxN (set2 Z (w.heap.size + 2) (.int .i64 V2.next) (.slice V2.ja V2.jl V2.jc)) y.heap.size 7 [.int .i64 V2.next, .slice V2.ja V2.jl V2.jc, .slice V2.ma V2.ml V2.mc, .slice V2.ra V2.rl V2.rc, .slice V2.pa V2.pl V2.pc, .int .i64 V2.sure, .int .i64 V2.com] := (tb.far (c := w.heap.size + 2) (by omega)).far (by omega)
            have hL2 : Live (w.heap.size + 3) (set2 Z (w.heap.size + 2) (.int .i64 V2.next) (.slice V2.ja V2.jl V2.jc)) V2 iz mz T := by
              have hl3 := hLZ.base hbase
              have hfar := hl3.farOld (r := w.heap.size + 2) (by omega)
              exact (hl3.aside hfar 0 _).aside hfar 1 _
            have rw2 : BoxN (set2 Z (w.heap.size + 2) (.int .i64 V2.next) (.slice V2.ja V2.jl V2.jc)) wr.heap.size 6 [.int .i64 rk, .int .i64 ra, .int .i64 rb, .int .i64 rc, .int .i64 rd, .int .i64 re] := by
              have hwz : w.heap.size + 2 ≠ wr.heap.size := by have := zwr; omega
              exact (rwZ.far (c := w.heap.size + 2) (fun e => hwz e.symm)).far (fun e => hwz e.symm)
            have eDn : Value.int .i64 V2.next = Value.int .i64 T.next ∧ Value.slice V2.ja V2.jl V2.jc = Value.slice da2 T.js.length dc2 := by
              simp at eD
              exact ⟨by rw [eD.1], by rw [eD.2.1, eD.2.2.1, eD.2.2.2]⟩
            rw [← eDn.1, ← eDn.2] at hS2
            obtain ⟨Y, eY⟩ : ∃ Y, Y = set2 Z (w.heap.size + 2) (.int .i64 V2.next) (.slice V2.ja V2.jl V2.jc) := ⟨_, rfl⟩
            rw [← eY] at hS2 tb2 hL2 rw2
            unfold set2 at eY
            have hmm := hL2.msgs
            have hml : V2.ml ≤ V2.mc ∧ V2.mc ≤ maxLen := ⟨hmm.2.1, hmm.2.2.1⟩
            unfold maxLen at hml
            obtain ⟨hml1, hml2⟩ := hml
            clear hmm eD eDn
            go_upto_region 11 with (fail)
            rw [← eY]
            clear eY
            have y2c : Y.cell? ⟨y.heap.size, 2, none⟩ = some (.slice V2.ma V2.ml V2.mc) := (tb2.c 2 (by decide)).1
            have zy := tb2.lt
            have HI2 : Hid (∃ nx da N dc, DkSt S1 2 (2 + (k : Int)) (w.heap.size + 3) (w.heap.size + 2) W Y nx da N dc) := ⟨_, _, _, _, hS2⟩
            have HL2 : Hid (Live (w.heap.size + 3) Y V2 iz mz T) := hL2
            have HR2 : Hid (BoxN Y wr.heap.size 6 [.int .i64 rk, .int .i64 ra, .int .i64 rb, .int .i64 rc, .int .i64 rd, .int .i64 re]) := rw2
            clear t0 t1 d0 d1 df0 df1 hS2 hL2 rw2 tb2 hSZ hLZ rwZ tb hI
            go_upto_region 12 with (fail)
            clear y2c
            go_loopw [18, 71] (fun _ s71 wi => ∃ n : Nat, s71 = .int .i64 (n : Int) ∧ n ≤ V2.ml ∧ Hid (∃ nx da N dc, DkSt S1 2 (2 + (k : Int)) (w.heap.size + 3) (w.heap.size + 2) W wi nx da N dc) ∧ Hid (Live (w.heap.size + 3) wi V2 iz mz T) ∧ Hid (BoxN wi wr.heap.size 6 [.int .i64 rk, .int .i64 ra, .int .i64 rb, .int .i64 rc, .int .i64 rd, .int .i64 re])) (fun _ s71 _ => V2.ml - (intOf s71).toNat)
            case atStart => exact ⟨0, rfl, Nat.zero_le _, HI2, HL2, HR2⟩
            case round =>
              obtain ⟨n, rfl, hn, hI2, hLi, hRi⟩ := hrel
              by_cases hlm : n < V2.ml
              · have hlm' : (n : Int) < (V2.ml : Int) := by omega
                have hmr := hLi.out.msgs
                obtain ⟨mb, mo, emb, zmb, hmc⟩ := hmr.2.2.2.2 (by omega)
                have hnc : n < V2.mc := by omega
                have hmcell := hmc n hlm
                obtain ⟨mv, emv⟩ : ∃ mv, mv = V2.ms.getD n default := ⟨_, rfl⟩
                rw [← emv] at hmcell
                clear emv hmc hmr
                obtain ⟨kind, frm, dst, site, num, label, key, value, version, ask, yes, code⟩ := mv
                have m0 := hmcell 0 (by decide)
                have m1 := hmcell 1 (by decide)
                have m2 := hmcell 2 (by decide)
                have m3 := hmcell 3 (by decide)
                have m4 := hmcell 4 (by decide)
                have m5 := hmcell 5 (by decide)
                have m6 := hmcell 6 (by decide)
                have m7 := hmcell 7 (by decide)
                have m8 := hmcell 8 (by decide)
                have m9 := hmcell 9 (by decide)
                have m10 := hmcell 10 (by decide)
                have m11 := hmcell 11 (by decide)
                simp only [mcells, List.getElem?_cons_zero, List.getElem?_cons_succ, Nat.add_zero] at m0 m1 m2 m3 m4 m5 m6 m7 m8 m9 m10 m11
                clear hmcell
                obtain ⟨vma, evma⟩ : ∃ vma, vma = V2.ma := ⟨_, rfl⟩
                rw [← evma] at emb ⊢
                subst emb
                clear evma
                obtain ⟨nx1, da1, N1, dc1, hS1i⟩ := hI2.out
                obtain ⟨U1, hU1⟩ : ∃ U1 : World, U1 = wr.alloc (.cells #[.int .i64 kind, .int .i64 frm, .int .i64 dst, .int .i64 site, .int .i64 num, .int .i64 label, .int .i64 key, .int .i64 value, .int .i64 version, .int .i64 ask, .bool yes, .int .i64 code] 58) := ⟨_, rfl⟩
                have bU1 : Below wr.heap.size wr U1 := by rw [hU1]; exact (Below.refl _ _).alloc (Nat.le_refl _) _
                have mbx : BoxN U1 wr.heap.size 12 [.int .i64 kind, .int .i64 frm, .int .i64 dst, .int .i64 site, .int .i64 num, .int .i64 label, .int .i64 key, .int .i64 value, .int .i64 version, .int .i64 ask, .bool yes, .int .i64 code] := by rw [hU1]; exact boxn_new wr #[.int .i64 kind, .int .i64 frm, .int .i64 dst, .int .i64 site, .int .i64 num, .int .i64 label, .int .i64 key, .int .i64 value, .int .i64 version, .int .i64 ask, .bool yes, .int .i64 code] 58 12 rfl
                go_upto_region 14 with (fail)
                rw [← hU1]
                clear hU1 m0 m1 m2 m3 m4 m5 m6 m7 m8 m9 m10 m11
                replace hS1i := hS1i.below bU1
                have hRu := hRi.out.below bU1 hRi.out.lt
                have hLu := hLi.out.below bU1
                have w0 := (hRu.c 0 (by decide)).1
                have w1 := (hRu.c 1 (by decide)).1
                have w2 := (hRu.c 2 (by decide)).1
                have w3 := (hRu.c 3 (by decide)).1
                have w4 := (hRu.c 4 (by decide)).1
                have w5 := (hRu.c 5 (by decide)).1
                simp only [List.getD_cons_zero, List.getD_cons_succ] at w0 w1 w2 w3 w4 w5
                have zru := hRu.lt
                have n0 : U1.cell? ⟨wr.heap.size, 0, none⟩ = some (.int .i64 kind) := (mbx.c 0 (by decide)).1
                have n1 : U1.cell? ⟨wr.heap.size, 1, none⟩ = some (.int .i64 frm) := (mbx.c 1 (by decide)).1
                have n2 : U1.cell? ⟨wr.heap.size, 2, none⟩ = some (.int .i64 dst) := (mbx.c 2 (by decide)).1
                have n3 : U1.cell? ⟨wr.heap.size, 3, none⟩ = some (.int .i64 site) := (mbx.c 3 (by decide)).1
                have n4 : U1.cell? ⟨wr.heap.size, 4, none⟩ = some (.int .i64 num) := (mbx.c 4 (by decide)).1
                have n5 : U1.cell? ⟨wr.heap.size, 5, none⟩ = some (.int .i64 label) := (mbx.c 5 (by decide)).1
                have n6 : U1.cell? ⟨wr.heap.size, 6, none⟩ = some (.int .i64 key) := (mbx.c 6 (by decide)).1
                have n7 : U1.cell? ⟨wr.heap.size, 7, none⟩ = some (.int .i64 value) := (mbx.c 7 (by decide)).1
                have n8 : U1.cell? ⟨wr.heap.size, 8, none⟩ = some (.int .i64 version) := (mbx.c 8 (by decide)).1
                have n9 : U1.cell? ⟨wr.heap.size, 9, none⟩ = some (.int .i64 ask) := (mbx.c 9 (by decide)).1
                have n10 : U1.cell? ⟨wr.heap.size, 10, none⟩ = some (.bool yes) := (mbx.c 10 (by decide)).1
                have n11 : U1.cell? ⟨wr.heap.size, 11, none⟩ = some (.int .i64 code) := (mbx.c 11 (by decide)).1
                have znu := mbx.lt
                obtain ⟨⟨c0, c1, c2⟩, -, hwU⟩ := KC.out U1 hS1i.bel hS1i.le
                have d0 : U1.cell? ⟨w.heap.size + 2, 0, none⟩ = some (.int .i64 nx1) := (hS1i.box.c 0 (by decide)).1
                have d1 : U1.cell? ⟨w.heap.size + 2, 1, none⟩ = some (.slice da1 N1 dc1) := (hS1i.box.c 1 (by decide)).1
                have zd1 := hS1i.box.lt
                by_cases hpe : 0 < PE
                · obtain ⟨bs1, js1, ix1, mo1, hN1, hDk1, hbs1, hok1⟩ := hS1i.dk
                  have HBk : Hid (Calls Tryd.prog 17 #[.agg #[.int .i64 S1, .slice (some ⟨g0, 0, none⟩) 2 2, .int .i64 3], .int .i64 l, .int .i64 me, .agg #[.int .i64 nx1, .slice da1 N1 dc1], .agg #[.int .i64 kind, .int .i64 frm, .int .i64 dst, .int .i64 site, .int .i64 num, .int .i64 label, .int .i64 key, .int .i64 value, .int .i64 version, .int .i64 ask, .bool yes, .int .i64 code], .agg #[.int .i64 rk, .int .i64 ra, .int .i64 rb, .int .i64 rc, .int .i64 rd, .int .i64 re]] U1 fun e w' => BackIs (w.heap.size + 3) U1 w' (backNx ⟨S1, LS2, 3, l, me⟩ nx1 bs1 ⟨kind, frm, dst, site, num, label, key, value, version, ask, yes, code⟩ ⟨rk, ra, rb, rc, rd, re⟩) (backJs ⟨S1, LS2, 3, l, me⟩ nx1 bs1 ⟨kind, frm, dst, site, num, label, key, value, version, ask, yes, code⟩ ⟨rk, ra, rb, rc, rd, re⟩) e) := by
                    have hDI : DkIs (w.heap.size + 3) U1 (.agg #[.int .i64 nx1, .slice da1 N1 dc1]) nx1 bs1 := ⟨da1, dc1, js1, ix1, mo1, by rw [hN1], by rw [← hN1]; exact hDk1, hbs1⟩
                    exact back_any S1 3 (some ⟨g0, 0, none⟩) 2 2 LS2 l me nx1 _ bs1 ⟨kind, frm, dst, site, num, label, key, value, version, ask, yes, code⟩ ⟨rk, ra, rb, rc, rd, re⟩ U1 hS1i.le (HL.out U1 hwU).1 hDI (HL.out U1 hwU).2.2 hkr2
                  have hokB : _ ∧ backNx ⟨S1, LS2, 3, l, me⟩ nx1 bs1 ⟨kind, frm, dst, site, num, label, key, value, version, ask, yes, code⟩ ⟨rk, ra, rb, rc, rd, re⟩ ≤ 2 + (k : Int) := ⟨good_back (C := ⟨S1, LS2, 3, l, me⟩) (m := ⟨kind, frm, dst, site, num, label, key, value, version, ask, yes, code⟩) (r := ⟨rk, ra, rb, rc, rd, re⟩) hok1, by rw [next_back]; exact hS1i.lim⟩
                  obtain ⟨nx2, enx2⟩ : ∃ x, x = backNx ⟨S1, LS2, 3, l, me⟩ nx1 bs1 ⟨kind, frm, dst, site, num, label, key, value, version, ask, yes, code⟩ ⟨rk, ra, rb, rc, rd, re⟩ := ⟨_, rfl⟩
                  obtain ⟨bs2, ebs2⟩ : ∃ x, x = backJs ⟨S1, LS2, 3, l, me⟩ nx1 bs1 ⟨kind, frm, dst, site, num, label, key, value, version, ask, yes, code⟩ ⟨rk, ra, rb, rc, rd, re⟩ := ⟨_, rfl⟩
                  rw [← enx2, ← ebs2] at HBk hokB
                  have HOB : Hid (DOK S1 2 nx2 bs2 ∧ nx2 ≤ 2 + (k : Int)) := hokB
                  have HS1i : Hid (DkSt S1 2 (2 + (k : Int)) (w.heap.size + 3) (w.heap.size + 2) W U1 nx1 da1 N1 dc1) := hS1i
                  have HLu : Hid (Live (w.heap.size + 3) U1 V2 iz mz T) := hLu
                  have HRu : Hid _ := hRu
                  obtain ⟨N2, eN2⟩ : ∃ N2, N2 = bs2.length := ⟨_, rfl⟩
                  have HBk2 : Hid (Calls Tryd.prog 17 #[.agg #[.int .i64 S1, .slice (some ⟨g0, 0, none⟩) 2 2, .int .i64 3], .int .i64 l, .int .i64 me, .agg #[.int .i64 nx1, .slice da1 N1 dc1], .agg #[.int .i64 kind, .int .i64 frm, .int .i64 dst, .int .i64 site, .int .i64 num, .int .i64 label, .int .i64 key, .int .i64 value, .int .i64 version, .int .i64 ask, .bool yes, .int .i64 code], .agg #[.int .i64 rk, .int .i64 ra, .int .i64 rb, .int .i64 rc, .int .i64 rd, .int .i64 re]] U1 fun e w' => ∃ (a2 : Option Addr) (c2 : Nat), e = .returned (.agg #[.int .i64 nx2, .slice a2 N2 c2]) ∧ DkIs (w.heap.size + 3) w' (.agg #[.int .i64 nx2, .slice a2 N2 c2]) nx2 bs2 ∧ Below U1.heap.size U1 w') := by
                    refine HBk.out.mono ?_
                    rintro e x ⟨⟨D2, rfl, hD2⟩, hb2⟩
                    have hD3 := hD2
                    obtain ⟨a2, c2, js2, ix2, mo2, rfl, -, -⟩ := hD2
                    refine ⟨a2, c2, by rw [eN2], by rw [eN2]; exact hD3, hb2⟩
                  have HN2 : Hid (N2 = bs2.length) := eN2
                  clear enx2 ebs2 hokB hok1 hDk1 hbs1 hN1 hS1i hLu hRu HBk mbx eN2
                  go_upto_region 16 with (first | (go_at_call 9; refine (hPe _).mono ?_; rintro e u ⟨rfl, hu⟩; rw [hu]; clear hu) | (go_at_call 17; refine HBk2.out.mono ?_; rintro e y2 ⟨a2, cc2, rfl, hD2, hb2⟩; have HD2 : Hid _ := hD2; clear hD2; have hSy := HS1i.out.below hb2; have e0 := (hSy.box.c 0 (by decide)).1; have ef0 := (hSy.box.c 0 (by decide)).2; have e1 := (hSy.box.c 1 (by decide)).1; have ef1 := (hSy.box.c 1 (by decide)).2; have zey := hSy.box.lt; simp only [List.getD_cons_zero, List.getD_cons_succ] at e0 e1; have HSy : Hid _ := hSy; clear hSy))
                  obtain ⟨da3, dc3, eD3, hS3⟩ := HSy.out.put (by omega) HD2.out HOB.out
                  simp at eD3
                  obtain ⟨rfl, hN3, rfl⟩ := eD3
                  have hL3 : Live (w.heap.size + 3) (set2 y2 (w.heap.size + 2) (.int .i64 nx2) (.slice a2 bs2.length cc2)) V2 iz mz T := by
                    have hl4 := HLu.out.below hb2
                    have hfar := hl4.farOld (r := w.heap.size + 2) (by omega)
                    exact (hl4.aside hfar 0 _).aside hfar 1 _
                  have hR3 := HRu.out.below hb2 HRu.out.lt
                  have hR4 := (hR3.far (c := w.heap.size + 2) (k := 0) (v := .int .i64 nx2) (by omega)).far (c := w.heap.size + 2) (k := 1) (v := .slice a2 bs2.length cc2) (by omega)
                  unfold set2 at hS3 hL3
                  have HI3 : Hid (∃ nx da N dc, DkSt S1 2 (2 + (k : Int)) (w.heap.size + 3) (w.heap.size + 2) W _ nx da N dc) := ⟨_, _, _, _, hS3⟩
                  have HL3 : Hid _ := hL3
                  have HR3 : Hid _ := hR4
                  clear hS3 hL3 hR3 hR4 e0 e1 ef0 ef1
                  go_wp2
                  go_roundw
                  case rel => exact ⟨n + 1, by go_num, by omega, HI3, HL3, HR3⟩
                  case measure => simp [intOf]; omega
                · have hpe' : PE ≤ 0 := by omega
                  have HI3 : Hid (∃ nx da N dc, DkSt S1 2 (2 + (k : Int)) (w.heap.size + 3) (w.heap.size + 2) W U1 nx da N dc) := ⟨_, _, _, _, hS1i⟩
                  have HL3 : Hid _ := hLu
                  have HR3 : Hid _ := hRu
                  clear hS1i hLu hRu
                  go_wp2_with (go_at_call 9; refine (hPe _).mono ?_; rintro e u ⟨rfl, hu⟩; rw [hu]; clear hu)
                  go_roundw
                  case rel => exact ⟨n + 1, by go_num, by omega, HI3, HL3, HR3⟩
                  case measure => simp [intOf]; omega
              · have hlm' : ¬ (n : Int) < (V2.ml : Int) := by omega
                go_wp2
                go_roundw
                case rel => exact ⟨k + 1, by go_num, by omega, by have := HMS.out; exact (by omega : (((k + 1 : Nat)) : Int) ≤ most), by obtain ⟨q1, q2, q3, q4, q5⟩ := hI2.out; exact ⟨q1, q2, q3, q4, q5.more (by omega)⟩⟩
                case measure => simp [intOf]; omega
          · have hE' : (E == 0) = false := by simpa using hE
            have HI9 : Hid (∃ nx da N dc, DkSt S1 2 (1 + ((k + 1 : Nat) : Int)) (w.heap.size + 3) (w.heap.size + 2) W Z nx da N dc) := ⟨nx, da, N, dc, hSZ.more (by omega)⟩
            clear hSZ hLZ rwZ hI
            go_wp2
            go_roundw
            case rel => exact ⟨k + 1, by go_num, by omega, by have := HMS.out; exact (by omega : (((k + 1 : Nat)) : Int) ≤ most), HI9⟩
            case measure => simp [intOf]; omega
        · have hp' : PK ≤ 0 := by omega
          have HMg : Hid (Calls Tryd.prog 14 #[.agg #[.int .i64 S1, .slice (some ⟨g0, 0, none⟩) 2 2, .int .i64 3], .agg #[.int .i64 rk, .int .i64 ra, .int .i64 rb, .int .i64 rc, .int .i64 rd, .int .i64 re]] V fun e w' => ∃ m : MV, e = .returned m.val ∧ msgFault S1 LS2 3 m = 0 ∧ Below V.heap.size V w') := msg_good S1 3 g0 2 2 LS2 rk ra rb rc rd re V ⟨(HL.out V hwV).1, hcf, hS1, hS3, by decide, by decide, rfl⟩ bk ba bb bc bd be
          go_upto_region 17 with (go_at_call 9; refine (hPk _).mono ?_; rintro e u ⟨rfl, hu⟩; rw [hu]; clear hu)
          go_upto_region 20 with (go_at_call 14; refine HMg.out.mono ?_; rintro e y1 ⟨⟨kind, frm, dst, site, num, label, key, value, version, ask, yes, code⟩, rfl, -, hb1⟩; simp only [MV.val])
          obtain ⟨X, hX⟩ : ∃ X : World, X = y1.alloc (.cells #[.int .i64 kind, .int .i64 frm, .int .i64 me, .int .i64 me, .int .i64 num, .int .i64 label, .int .i64 key, .int .i64 value, .int .i64 version, .int .i64 ask, .bool yes, .int .i64 code] 58) := ⟨_, rfl⟩
          have bX1 : Below y1.heap.size y1 X := by rw [hX]; exact (Below.refl _ _).alloc (Nat.le_refl _) _
          have xb : BoxN X y1.heap.size 12 [.int .i64 kind, .int .i64 frm, .int .i64 me, .int .i64 me, .int .i64 num, .int .i64 label, .int .i64 key, .int .i64 value, .int .i64 version, .int .i64 ask, .bool yes, .int .i64 code] := by rw [hX]; exact boxn_new y1 #[.int .i64 kind, .int .i64 frm, .int .i64 me, .int .i64 me, .int .i64 num, .int .i64 label, .int .i64 key, .int .i64 value, .int .i64 version, .int .i64 ask, .bool yes, .int .i64 code] 58 12 rfl
          rw [← hX]
          have bX := nT hb1 bX1
          clear hX v0 v1 v2 v3 v4 v5 c0 c1 c2 HMg rwb
          replace hS := hS.below bX
          obtain ⟨⟨c0, c1, c2⟩, -, hwX⟩ := KC.out X hS.bel hS.le
          have d0 : X.cell? ⟨w.heap.size + 2, 0, none⟩ = some (.int .i64 nx) := (hS.box.c 0 (by decide)).1
          have d1 : X.cell? ⟨w.heap.size + 2, 1, none⟩ = some (.slice da N dc) := (hS.box.c 1 (by decide)).1
          have zd := hS.box.lt
          have x0c : X.cell? ⟨y1.heap.size, 0, none⟩ = some (.int .i64 kind) := (xb.c 0 (by decide)).1
          have x1c : X.cell? ⟨y1.heap.size, 1, none⟩ = some (.int .i64 frm) := (xb.c 1 (by decide)).1
          have x2c : X.cell? ⟨y1.heap.size, 2, none⟩ = some (.int .i64 me) := (xb.c 2 (by decide)).1
          have x3c : X.cell? ⟨y1.heap.size, 3, none⟩ = some (.int .i64 me) := (xb.c 3 (by decide)).1
          have x4c : X.cell? ⟨y1.heap.size, 4, none⟩ = some (.int .i64 num) := (xb.c 4 (by decide)).1
          have x5c : X.cell? ⟨y1.heap.size, 5, none⟩ = some (.int .i64 label) := (xb.c 5 (by decide)).1
          have x6c : X.cell? ⟨y1.heap.size, 6, none⟩ = some (.int .i64 key) := (xb.c 6 (by decide)).1
          have x7c : X.cell? ⟨y1.heap.size, 7, none⟩ = some (.int .i64 value) := (xb.c 7 (by decide)).1
          have x8c : X.cell? ⟨y1.heap.size, 8, none⟩ = some (.int .i64 version) := (xb.c 8 (by decide)).1
          have x9c : X.cell? ⟨y1.heap.size, 9, none⟩ = some (.int .i64 ask) := (xb.c 9 (by decide)).1
          have x10c : X.cell? ⟨y1.heap.size, 10, none⟩ = some (.bool yes) := (xb.c 10 (by decide)).1
          have x11c : X.cell? ⟨y1.heap.size, 11, none⟩ = some (.int .i64 code) := (xb.c 11 (by decide)).1
          have zx := xb.lt
          obtain ⟨bs, js, ix, more, hN, hDk, hbs, hok⟩ := hS.dk
          have HCl : Hid (Calls Tryd.prog 15 #[.agg #[.int .i64 S1, .slice (some ⟨g0, 0, none⟩) 2 2, .int .i64 3], .int .i64 l, .int .i64 me, .agg #[.int .i64 nx, .slice da N dc], .agg #[.int .i64 kind, .int .i64 frm, .int .i64 me, .int .i64 me, .int .i64 num, .int .i64 label, .int .i64 key, .int .i64 value, .int .i64 version, .int .i64 ask, .bool yes, .int .i64 code]] X fun e w' => ∃ (v' : CkV) (ix' : List (Nat × Nat)) (more' : List Rw), e = .returned (.tuple #[v'.turn, .int .i64 (hrErr ⟨S1, LS2, 3, l, me⟩ nx bs ⟨kind, frm, me, me, num, label, key, value, version, ask, yes, code⟩)]) ∧ Live X.heap.size w' v' ix' more' (HearAns ⟨S1, LS2, 3, l, me⟩ nx bs ⟨kind, frm, me, me, num, label, key, value, version, ask, yes, code⟩) ∧ Below X.heap.size X w') := by
            rw [hN] at hDk ⊢
            exact hear_dk S1 3 (some ⟨g0, 0, none⟩) 2 2 LS2 l me nx da dc bs ⟨kind, frm, me, me, num, label, key, value, version, ask, yes, code⟩ X (HL.out X hwX).1 hDk hbs (HL.out X hwX).2.2
          have HGd : Hid (hrErr ⟨S1, LS2, 3, l, me⟩ nx bs ⟨kind, frm, me, me, num, label, key, value, version, ask, yes, code⟩ = 0 → DOK S1 2 (HearAns ⟨S1, LS2, 3, l, me⟩ nx bs ⟨kind, frm, me, me, num, label, key, value, version, ask, yes, code⟩).next (HearAns ⟨S1, LS2, 3, l, me⟩ nx bs ⟨kind, frm, me, me, num, label, key, value, version, ask, yes, code⟩).js ∧ (HearAns ⟨S1, LS2, 3, l, me⟩ nx bs ⟨kind, frm, me, me, num, label, key, value, version, ask, yes, code⟩).next ≤ 1 + ((k + 1 : Nat) : Int)) := fun h => ⟨good_hear (C := ⟨S1, LS2, 3, l, me⟩) h, by rw [next_hear (C := ⟨S1, LS2, 3, l, me⟩) h]; have h9 := hS.lim; omega⟩
          obtain ⟨T, eT⟩ : ∃ T, T = HearAns ⟨S1, LS2, 3, l, me⟩ nx bs ⟨kind, frm, me, me, num, label, key, value, version, ask, yes, code⟩ := ⟨_, rfl⟩
          obtain ⟨E, eE⟩ : ∃ E, E = hrErr ⟨S1, LS2, 3, l, me⟩ nx bs ⟨kind, frm, me, me, num, label, key, value, version, ask, yes, code⟩ := ⟨_, rfl⟩
          rw [← eT] at HCl HGd
          rw [← eE] at HCl HGd
          have HS : Hid (DkSt S1 2 (1 + (k : Int)) (w.heap.size + 3) (w.heap.size + 2) W X nx da N dc) := hS
          clear eT eE hDk hbs hok hN hS
          go_upto_region 21 with (go_at_call 15; refine HCl.out.mono ?_; rintro e y ⟨V2, iz, mz, rfl, hLv, hby⟩; simp only [CkV.turn])
          obtain ⟨Z, eZ⟩ : ∃ Z : World, Z = y.alloc (.cells #[.int .i64 V2.next, .slice V2.ja V2.jl V2.jc, .slice V2.ma V2.ml V2.mc, .slice V2.ra V2.rl V2.rc, .slice V2.pa V2.pl V2.pc, .int .i64 V2.sure, .int .i64 V2.com] 39) := ⟨_, rfl⟩
          have bZ : Below y.heap.size y Z := by rw [eZ]; exact (Below.refl _ _).alloc (Nat.le_refl _) _
          have tb : BoxN Z y.heap.size 7 [.int .i64 V2.next, .slice V2.ja V2.jl V2.jc, .slice V2.ma V2.ml V2.mc, .slice V2.ra V2.rl V2.rc, .slice V2.pa V2.pl V2.pc, .int .i64 V2.sure, .int .i64 V2.com] := by rw [eZ]; exact boxn_new y #[.int .i64 V2.next, .slice V2.ja V2.jl V2.jc, .slice V2.ma V2.ml V2.mc, .slice V2.ra V2.rl V2.rc, .slice V2.pa V2.pl V2.pc, .int .i64 V2.sure, .int .i64 V2.com] 39 7 rfl
          rw [← eZ]
          have bXZ := nT hby bZ
          clear eZ d0 d1 c0 c1 c2 x0c x1c x2c x3c x4c x5c x6c x7c x8c x9c x10c x11c xb
          have hSZ := HS.out.below bXZ
          have hLZ := hLv.below bZ
          clear hLv HCl
          have hbase : w.heap.size + 3 ≤ X.heap.size := HS.out.le
          by_cases hE : E = 0
          · subst hE
            have hok := HGd.out rfl
            obtain ⟨da2, dc2, eD, hS2⟩ := hSZ.put (by omega) ((hLZ.base hbase).dk) hok
            have t0 : Z.cell? ⟨y.heap.size, 0, none⟩ = some (.int .i64 V2.next) := (tb.c 0 (by decide)).1
            have t1 : Z.cell? ⟨y.heap.size, 1, none⟩ = some (.slice V2.ja V2.jl V2.jc) := (tb.c 1 (by decide)).1
            have zt := tb.lt
            have d0 : Z.cell? ⟨w.heap.size + 2, 0, none⟩ = some (.int .i64 nx) := (hSZ.box.c 0 (by decide)).1
            have d1 : Z.cell? ⟨w.heap.size + 2, 1, none⟩ = some (.slice da N dc) := (hSZ.box.c 1 (by decide)).1
            have df0 := (hSZ.box.c 0 (by decide)).2
            have df1 := (hSZ.box.c 1 (by decide)).2
            have zd := hSZ.box.lt
            have eDn : Value.int .i64 V2.next = Value.int .i64 T.next ∧ Value.slice V2.ja V2.jl V2.jc = Value.slice da2 T.js.length dc2 := by
              simp at eD
              exact ⟨by rw [eD.1], by rw [eD.2.1, eD.2.2.1, eD.2.2.2]⟩
            rw [← eDn.1, ← eDn.2] at hS2
            unfold set2 at hS2
            have HI9 : Hid (∃ nx da N dc, DkSt S1 2 (1 + ((k + 1 : Nat) : Int)) (w.heap.size + 3) (w.heap.size + 2) W _ nx da N dc) := ⟨_, _, _, _, hS2⟩
            clear hSZ hLZ hI hS2 eD eDn tb hok
            go_wp2
            go_roundw
            case rel => exact ⟨k + 1, by go_num, by omega, by have := HMS.out; exact (by omega : (((k + 1 : Nat)) : Int) ≤ most), HI9⟩
            case measure => simp [intOf]; omega
          · have hE' : (E == 0) = false := by simpa using hE
            have HI9 : Hid (∃ nx da N dc, DkSt S1 2 (1 + ((k + 1 : Nat) : Int)) (w.heap.size + 3) (w.heap.size + 2) W Z nx da N dc) := ⟨nx, da, N, dc, hSZ.more (by omega)⟩
            clear hSZ hLZ hI
            go_wp2
            go_roundw
            case rel => exact ⟨k + 1, by go_num, by omega, by have := HMS.out; exact (by omega : (((k + 1 : Nat)) : Int) ≤ most), HI9⟩
            case measure => simp [intOf]; omega
      · have zc := hS.le
        have d0 : wr.cell? ⟨w.heap.size + 2, 0, none⟩ = some (.int .i64 nx) := (hS.box.c 0 (by decide)).1
        have d1 : wr.cell? ⟨w.heap.size + 2, 1, none⟩ = some (.slice da N dc) := (hS.box.c 1 (by decide)).1
        have r0 : wr.cell? ⟨w.heap.size + 1, 0, none⟩ = some (.int .i64 0) := (rbx.c 0 (by decide)).1
        have r1 : wr.cell? ⟨w.heap.size + 1, 1, none⟩ = some (.slice none 0 0) := (rbx.c 1 (by decide)).1
        have rf0 := (rbx.c 0 (by decide)).2
        have rf1 := (rbx.c 1 (by decide)).2
        have zd := hS.box.lt
        have zr := rbx.lt
        have HS : Hid (DkSt S1 2 (1 + (k : Int)) (w.heap.size + 3) (w.heap.size + 2) W wr nx da N dc) := hS
        clear hI hS hrw hlw hTw
        go_wp2
        have rbF := (rbx.set 0 (by decide) (.int .i64 nx)).set 1 (by decide) (.slice da N dc)
        have bF : Below w.heap.size w ((wr.setCell ⟨w.heap.size + 1, 0, none⟩ (.int .i64 nx)).setCell ⟨w.heap.size + 1, 1, none⟩ (.slice da N dc)) := (hww.setCell (p := ⟨w.heap.size + 1, 0, none⟩) (by show w.heap.size ≤ w.heap.size + 1; omega) _).setCell (p := ⟨w.heap.size + 1, 1, none⟩) (by show w.heap.size ≤ w.heap.size + 1; omega) _
        have hdk : ∃ D nx' bs, Ending.returned (.agg #[.int .i64 nx, .slice da N dc]) = .returned D ∧ DkIs w.heap.size ((wr.setCell ⟨w.heap.size + 1, 0, none⟩ (.int .i64 nx)).setCell ⟨w.heap.size + 1, 1, none⟩ (.slice da N dc)) D nx' bs ∧ DOK S1 2 nx' bs ∧ nx' ≤ 1 + most := by
          obtain ⟨bs, js, ix, more, h1, h2, h3, h4⟩ := HS.out.dk
          refine ⟨_, nx, bs, rfl, ⟨da, dc, js, ix, more, by rw [h1], ?_, h3⟩, h4, by have := HS.out.lim; have := HKM.out; omega⟩
          rw [← h1]
          exact ((h2.aside (r := w.heap.size + 1) (by omega) 0 _).aside (r := w.heap.size + 1) (by omega) 1 _).base (by omega)
        obtain ⟨Y, eY⟩ : ∃ Y, Y = (wr.setCell ⟨w.heap.size + 1, 0, none⟩ (.int .i64 nx)).setCell ⟨w.heap.size + 1, 1, none⟩ (.slice da N dc) := ⟨_, rfl⟩
        rw [← eY] at rbF bF hdk ⊢
        clear eY
        have k0 : Y.cell? ⟨w.heap.size + 1, 0, none⟩ = some (.int .i64 nx) := (rbF.c 0 (by decide)).1
        have k1 : Y.cell? ⟨w.heap.size + 1, 1, none⟩ = some (.slice da N dc) := (rbF.c 1 (by decide)).1
        exact bodyPost_ret (v := .agg #[.int .i64 nx, .slice da N dc]) (by simp [results, Tryd.results8, go_sem, k0, k1]) rfl ⟨hdk, bF⟩
    · have hlt' : ¬ (k : Int) < (len : Int) := by omega
      have zc := hS.le
      have d0 : wr.cell? ⟨w.heap.size + 2, 0, none⟩ = some (.int .i64 nx) := (hS.box.c 0 (by decide)).1
      have d1 : wr.cell? ⟨w.heap.size + 2, 1, none⟩ = some (.slice da N dc) := (hS.box.c 1 (by decide)).1
      have r0 : wr.cell? ⟨w.heap.size + 1, 0, none⟩ = some (.int .i64 0) := (rbx.c 0 (by decide)).1
      have r1 : wr.cell? ⟨w.heap.size + 1, 1, none⟩ = some (.slice none 0 0) := (rbx.c 1 (by decide)).1
      have rf0 := (rbx.c 0 (by decide)).2
      have rf1 := (rbx.c 1 (by decide)).2
      have zd := hS.box.lt
      have zr := rbx.lt
      have HS : Hid (DkSt S1 2 (1 + (k : Int)) (w.heap.size + 3) (w.heap.size + 2) W wr nx da N dc) := hS
      clear hI hS hrw hlw hTw
      go_wp2
      have rbF := (rbx.set 0 (by decide) (.int .i64 nx)).set 1 (by decide) (.slice da N dc)
      have bF : Below w.heap.size w ((wr.setCell ⟨w.heap.size + 1, 0, none⟩ (.int .i64 nx)).setCell ⟨w.heap.size + 1, 1, none⟩ (.slice da N dc)) := (hww.setCell (p := ⟨w.heap.size + 1, 0, none⟩) (by show w.heap.size ≤ w.heap.size + 1; omega) _).setCell (p := ⟨w.heap.size + 1, 1, none⟩) (by show w.heap.size ≤ w.heap.size + 1; omega) _
      have hdk : ∃ D nx' bs, Ending.returned (.agg #[.int .i64 nx, .slice da N dc]) = .returned D ∧ DkIs w.heap.size ((wr.setCell ⟨w.heap.size + 1, 0, none⟩ (.int .i64 nx)).setCell ⟨w.heap.size + 1, 1, none⟩ (.slice da N dc)) D nx' bs ∧ DOK S1 2 nx' bs ∧ nx' ≤ 1 + most := by
        obtain ⟨bs, js, ix, more, h1, h2, h3, h4⟩ := HS.out.dk
        refine ⟨_, nx, bs, rfl, ⟨da, dc, js, ix, more, by rw [h1], ?_, h3⟩, h4, by have := HS.out.lim; have := HKM.out; omega⟩
        rw [← h1]
        exact ((h2.aside (r := w.heap.size + 1) (by omega) 0 _).aside (r := w.heap.size + 1) (by omega) 1 _).base (by omega)
      obtain ⟨Y, eY⟩ : ∃ Y, Y = (wr.setCell ⟨w.heap.size + 1, 0, none⟩ (.int .i64 nx)).setCell ⟨w.heap.size + 1, 1, none⟩ (.slice da N dc) := ⟨_, rfl⟩
      rw [← eY] at rbF bF hdk ⊢
      clear eY
      have k0 : Y.cell? ⟨w.heap.size + 1, 0, none⟩ = some (.int .i64 nx) := (rbF.c 0 (by decide)).1
      have k1 : Y.cell? ⟨w.heap.size + 1, 1, none⟩ = some (.slice da N dc) := (rbF.c 1 (by decide)).1
      exact bodyPost_ret (v := .agg #[.int .i64 nx, .slice da N dc]) (by simp [results, Tryd.results8, go_sem, k0, k1]) rfl ⟨hdk, bF⟩
end Go.Proofs.YtdjnaahkcnklhaaDoor.Co
/- What is heard twice, as plain data: the second time nothing comes of it. -/
namespace Go.Proofs.YtdjnaahkcnklhaaDoor.Co
open Go.Proofs.YtdjnaahkcnklhaaDoor.St (idxI idxI_lt idxI_hit idxI_none)
set_option linter.unusedVariables false

theorem find_set {n : Int} : ∀ {l : List JbV} {i : Nat} {x : JbV}, x.n = (l.getD i default).n → i < l.length → (l.set i x).findIdx? (isN n) = l.findIdx? (isN n)
  | [], i, x, _, h => by simp at h
  | a :: l, 0, x, e, h => by
    simp only [List.getD_cons_zero] at e
    have e1 : isN n x = isN n a := by unfold isN; rw [e]
    simp [List.findIdx?_cons, e1]
  | a :: l, i + 1, x, e, h => by
    simp only [List.getD_cons_succ] at e
    simp only [List.set_cons_succ, List.findIdx?_cons]
    rw [find_set e (by simpa using h)]
theorem idx_set {n : Int} {l : List JbV} {i : Nat} {x : JbV} (e : x.n = (l.getD i default).n) (h : i < l.length) : idxI (isN n) (l.set i x) = idxI (isN n) l := by
  unfold idxI
  rw [find_set e h]
theorem idx_kept (n : Int) (l : List JbV) : idxI (isN n) (kept n l) = -1 := by
  refine idxI_none fun i hi => ?_
  have hm : (kept n l).getD i default ∈ kept n l := mem_at hi
  unfold kept keep at hm
  have h2 := (List.mem_filter.1 hm).2
  generalize (List.filter (fun x => !isN n x) l).getD i default = y at h2
  show isN n ((List.filter (fun x => !isN n x) l).getD i default) = false
  have h3 := (List.mem_filter.1 hm).2
  exact Bool.not_eq_true _ ▸ (by simpa using h3)
theorem mark_mark (m : MV) (t : TkV) : mark m (mark m t) = mark m t := by
  unfold mark
  by_cases h : readB m t = true
  · rw [if_pos h]
    have : readB m { t with sure := true } = true := h
    rw [if_pos this]
  · rw [if_neg h, if_neg h]
theorem keep_keep (p : Int → Bool) (l : List Int) : keep p (keep p l) = keep p l := by
  unfold keep
  rw [List.filter_filter]
  congr 1
  funext x
  simp
theorem wait_done {j : JbV} (h : ∀ t ∈ j.tasks, t.done = true) : waitB j = false := by
  unfold waitB
  cases hl : decide (0 < j.tasks.length) with
  | false => rfl
  | true =>
    have hl' : 0 < j.tasks.length := of_decide_eq_true hl
    have := h _ (mem_at (l := j.tasks) (i := j.tasks.length - 1) (by omega))
    rw [this]
    rfl
/-- The second time: nothing. -/
structure Still (C : Cx) (nx : Int) (bs : List JbV) (m : MV) : Prop where
  js : ((⟨nx, bs, [], [], [], 0, 0⟩ : Tn).heard C m).js = bs
  next : ((⟨nx, bs, [], [], [], 0, 0⟩ : Tn).heard C m).next = nx
  rs : ((⟨nx, bs, [], [], [], 0, 0⟩ : Tn).heard C m).rs = []
  ps : ((⟨nx, bs, [], [], [], 0, 0⟩ : Tn).heard C m).ps = []
  com : ((⟨nx, bs, [], [], [], 0, 0⟩ : Tn).heard C m).com = 0
theorem still_id {C : Cx} {nx : Int} {bs : List JbV} {m : MV} (h : (⟨nx, bs, [], [], [], 0, 0⟩ : Tn).heard C m = ⟨nx, bs, [], [], [], 0, 0⟩) : Still C nx bs m := ⟨by rw [h], by rw [h], by rw [h], by rw [h], by rw [h]⟩
theorem still_none {C : Cx} {nx : Int} {bs : List JbV} {m : MV} (hk : m.kind ≠ 9) (h : idxI (isN m.num) bs = -1) : Still C nx bs m := still_id (by unfold Tn.heard; rw [if_neg hk, if_pos h])
theorem still_wait {C : Cx} {nx : Int} {bs : List JbV} {m : MV} (hk : m.kind = 5 ∨ m.kind = 6) {i : Nat} (h : idxI (isN m.num) bs = (i : Int)) (hw : waitB (bs.getD i default) = false) : Still C nx bs m := still_id (by
  unfold Tn.heard
  rw [if_neg (by omega), if_neg (by show ¬ idxI (isN m.num) bs = -1; omega), if_pos hk]
  show Tn.answered _ C (idxI (isN m.num) bs).toNat m = _
  rw [h]
  unfold Tn.answered
  rw [if_neg (by show ¬ (waitB (bs.getD i default) && _) = true; rw [hw]; simp)])
theorem still_state {C : Cx} {nx : Int} {bs : List JbV} {m : MV} (hk : m.kind = 7) {i : Nat} (h : idxI (isN m.num) bs = (i : Int)) (hs : (bs.getD i default).state ≠ 2) : Still C nx bs m := still_id (by
  unfold Tn.heard
  rw [if_neg (by omega), if_neg (by show ¬ idxI (isN m.num) bs = -1; omega), if_neg (by omega), if_pos hk]
  show Tn.sured _ C (idxI (isN m.num) bs).toNat m = _
  rw [h]
  unfold Tn.sured
  rw [if_neg (by show ¬ (decide ((bs.getD i default).state = 2) && _ && _) = true; rw [decide_eq_false hs]; exact Bool.false_ne_true)])
theorem still_mark {C : Cx} {nx : Int} {bs : List JbV} {m : MV} (hk : m.kind = 7) (hy : m.yes = true) {i : Nat} (h : idxI (isN m.num) bs = (i : Int)) (hi : i < bs.length) (hm : (bs.getD i default).tasks.map (mark m) = (bs.getD i default).tasks) (ha : allSure (bs.getD i default).tasks = false) : Still C nx bs m := by
  have e0 : (⟨nx, bs, [], [], [], 0, 0⟩ : Tn).heard C m = (⟨nx, bs, [], [], [], 0, 0⟩ : Tn).sured C i m := by
    unfold Tn.heard
    rw [if_neg (by omega), if_neg (by show ¬ idxI (isN m.num) bs = -1; omega), if_neg (by omega), if_pos hk]
    show Tn.sured _ C (idxI (isN m.num) bs).toNat m = _
    rw [h]
    rfl
  refine still_id ?_
  rw [e0]
  unfold Tn.sured
  by_cases hc : (decide ((bs.getD i default).state = 2) && (m.frm == C.home m.key) && (bs.getD i default).tasks.any (readB m)) = true
  · rw [if_pos hc, if_pos hy]
    show (if allSure ((bs.getD i default).tasks.map (mark m)) = true then _ else _) = _
    rw [hm, if_neg (by rw [ha]; decide)]
    show (⟨nx, bs.set i (bs.getD i default), [], [], [], 0, 0⟩ : Tn) = _
    rw [show bs.set i (bs.getD i default) = bs by simp [List.getD, hi]]
  · rw [if_neg hc]
theorem still_ack {C : Cx} {nx : Int} {bs : List JbV} {m : MV} (hk : m.kind = 8) {i : Nat} (h : idxI (isN m.num) bs = (i : Int)) (hi : i < bs.length) (hs : (bs.getD i default).state = 3 → keep (fun y => y == m.frm) (bs.getD i default).asked = (bs.getD i default).asked ∧ (bs.getD i default).asked ≠ []) : Still C nx bs m := by
  have e0 : (⟨nx, bs, [], [], [], 0, 0⟩ : Tn).heard C m = (⟨nx, bs, [], [], [], 0, 0⟩ : Tn).acked i m := by
    unfold Tn.heard
    rw [if_neg (by omega), if_neg (by show ¬ idxI (isN m.num) bs = -1; omega), if_neg (by omega), if_neg (by omega)]
    show Tn.acked _ (idxI (isN m.num) bs).toNat m = _
    rw [h]
    rfl
  refine still_id ?_
  rw [e0]
  unfold Tn.acked
  split
  · rename_i h3
    obtain ⟨h4, h5⟩ := hs h3
    show (if keep (fun y => y == m.frm) (bs.getD i default).asked = [] then _ else _) = _
    rw [h4, if_neg h5]
    show (⟨nx, bs.set i (bs.getD i default), [], [], [], 0, 0⟩ : Tn) = _
    rw [show bs.set i (bs.getD i default) = bs by simp [List.getD, hi]]
  · rfl
theorem idx_nat {n : Int} {l : List JbV} (h : ¬ idxI (isN n) l = -1) : ∃ i : Nat, idxI (isN n) l = (i : Int) ∧ i < l.length ∧ (l.getD i default).n = n := by
  have h1 := idxI_lt (p := isN n) (l := l)
  obtain ⟨h2, h3⟩ := idx_get h
  exact ⟨(idxI (isN n) l).toNat, by omega, h2, h3⟩
theorem heard_twice {C : Cx} {nx nl : Int} {bs : List JbV} {m : MV} (hk : 5 ≤ m.kind ∧ m.kind ≤ 8) (hd : DOK C.s nl nx bs) : Still C ((⟨nx, bs, [], [], [], 0, 0⟩ : Tn).heard C m).next ((⟨nx, bs, [], [], [], 0, 0⟩ : Tn).heard C m).js m := by
  have h9 : m.kind ≠ 9 := by omega
  by_cases h0 : idxI (isN m.num) bs = -1
  · have e0 : (⟨nx, bs, [], [], [], 0, 0⟩ : Tn).heard C m = ⟨nx, bs, [], [], [], 0, 0⟩ := by unfold Tn.heard; rw [if_neg h9, if_pos h0]
    rw [e0]
    exact still_none h9 h0
  obtain ⟨i, hx, hi, hn⟩ := idx_nat h0
  obtain ⟨hj1, hj2, hj⟩ := hd.get hi
  have hset : ∀ x : JbV, x.n = (bs.getD i default).n → idxI (isN m.num) (bs.set i x) = (i : Int) ∧ (bs.set i x).getD i default = x ∧ i < (bs.set i x).length := fun x e => ⟨by rw [idx_set e hi, hx], set_getD _ _ _ hi, by simpa using hi⟩
  by_cases h56 : m.kind = 5 ∨ m.kind = 6
  · have e0 : (⟨nx, bs, [], [], [], 0, 0⟩ : Tn).heard C m = (⟨nx, bs, [], [], [], 0, 0⟩ : Tn).answered C i m := by
      unfold Tn.heard
      rw [if_neg h9, if_neg h0, if_pos h56]
      show Tn.answered _ C (idxI (isN m.num) bs).toNat m = _
      rw [hx]
      rfl
    rw [e0]
    unfold Tn.answered
    split
    · split
      · obtain ⟨g1, g2, g3⟩ := hset { bs.getD i default with age := 0, tasks := (bs.getD i default).tasks.set ((bs.getD i default).tasks.length - 1) (ansTask (lastT (bs.getD i default)) m) } rfl
        refine still_wait h56 g1 ?_
        rw [g2]
        unfold waitB
        simp only [List.length_set]
        by_cases hl : 0 < (bs.getD i default).tasks.length
        · rw [set_getD _ _ _ (by omega)]
          simp [ansTask]
        · have hl0 : (bs.getD i default).tasks.length = 0 := by omega
          simp only [hl0]
          rfl
      · split
        · refine still_none h9 ?_
          show idxI (isN m.num) (kept (bs.getD i default).n (bs.set i { bs.getD i default with age := 0 })) = -1
          rw [hn]
          exact idx_kept _ _
        · obtain ⟨g1, g2, g3⟩ := hset { bs.getD i default with age := 0, tasks := (bs.getD i default).tasks.take ((bs.getD i default).tasks.length - 1) } rfl
          refine still_wait h56 g1 ?_
          rw [g2]
          exact wait_done (last_take hj.last)
    · rename_i hc
      by_cases hw : waitB (bs.getD i default) = false
      · exact still_wait h56 hx hw
      · refine still_id ?_
        rw [e0]
        unfold Tn.answered
        rw [if_neg hc]
  by_cases h7 : m.kind = 7
  · have e0 : (⟨nx, bs, [], [], [], 0, 0⟩ : Tn).heard C m = (⟨nx, bs, [], [], [], 0, 0⟩ : Tn).sured C i m := by
      unfold Tn.heard
      rw [if_neg h9, if_neg h0, if_neg h56, if_pos h7]
      show Tn.sured _ C (idxI (isN m.num) bs).toNat m = _
      rw [hx]
      rfl
    by_cases hc : (decide ((bs.getD i default).state = 2) && (m.frm == C.home m.key) && (bs.getD i default).tasks.any (readB m)) = true
    · by_cases hy : m.yes = true
      · obtain ⟨g1, g2, g3⟩ := hset { bs.getD i default with tasks := (bs.getD i default).tasks.map (mark m) } rfl
        by_cases ha : allSure ((bs.getD i default).tasks.map (mark m)) = true
        · have e1 : (⟨nx, bs, [], [], [], 0, 0⟩ : Tn).sured C i m = Tn.comm ⟨nx, bs.set i { bs.getD i default with tasks := (bs.getD i default).tasks.map (mark m) }, [], [], [], 0, 0⟩ C i := by
            unfold Tn.sured
            rw [if_pos hc, if_pos hy, if_pos ha]
          rw [e0, e1]
          unfold Tn.comm
          split
          · refine still_none h9 ?_
            show idxI (isN m.num) (kept ((bs.set i { bs.getD i default with tasks := (bs.getD i default).tasks.map (mark m) }).getD i default).n _) = -1
            rw [g2]
            show idxI (isN m.num) (kept (bs.getD i default).n _) = -1
            rw [hn]
            exact idx_kept _ _
          · show Still C nx ((bs.set i { bs.getD i default with tasks := (bs.getD i default).tasks.map (mark m) }).set i (teltJob ((bs.set i { bs.getD i default with tasks := (bs.getD i default).tasks.map (mark m) }).getD i default) _)) m
            rw [List.set_set]
            obtain ⟨q1, q2, q3⟩ := hset (teltJob ((bs.set i { bs.getD i default with tasks := (bs.getD i default).tasks.map (mark m) }).getD i default) (C.hands ((bs.set i { bs.getD i default with tasks := (bs.getD i default).tasks.map (mark m) }).getD i default).tasks)) (by rw [g2]; rfl)
            refine still_state h7 q1 ?_
            rw [q2]
            show (3 : Int) ≠ 2
            decide
        · have e1 : (⟨nx, bs, [], [], [], 0, 0⟩ : Tn).sured C i m = ⟨nx, bs.set i { bs.getD i default with tasks := (bs.getD i default).tasks.map (mark m) }, [], [], [], 0, 0⟩ := by
            unfold Tn.sured
            rw [if_pos hc, if_pos hy, if_neg ha]
          rw [e0, e1]
          refine still_mark h7 hy g1 g3 ?_ ?_
          · rw [g2]
            show ((bs.getD i default).tasks.map (mark m)).map (mark m) = (bs.getD i default).tasks.map (mark m)
            rw [List.map_map]
            congr 1
            funext x
            exact mark_mark m x
          · rw [g2]
            simpa using ha
      · have e1 : (⟨nx, bs, [], [], [], 0, 0⟩ : Tn).sured C i m = Tn.ended (Tn.rep ⟨nx, bs, [], [], [], 0, 0⟩ C 4 (bs.getD i default).n 0 0 11) C (bs.getD i default).n (bs.getD i default).tasks := by
          unfold Tn.sured
          rw [if_pos hc, if_neg hy]
        rw [e0, e1]
        refine still_none h9 ?_
        show idxI (isN m.num) (kept (bs.getD i default).n bs) = -1
        rw [hn]
        exact idx_kept _ _
    · have e1 : (⟨nx, bs, [], [], [], 0, 0⟩ : Tn).sured C i m = ⟨nx, bs, [], [], [], 0, 0⟩ := by
        unfold Tn.sured
        rw [if_neg hc]
      rw [e0, e1]
      refine still_id ?_
      rw [e0, e1]
  · have h8 : m.kind = 8 := by omega
    have e0 : (⟨nx, bs, [], [], [], 0, 0⟩ : Tn).heard C m = (⟨nx, bs, [], [], [], 0, 0⟩ : Tn).acked i m := by
      unfold Tn.heard
      rw [if_neg h9, if_neg h0, if_neg h56, if_neg h7]
      show Tn.acked _ (idxI (isN m.num) bs).toNat m = _
      rw [hx]
      rfl
    rw [e0]
    unfold Tn.acked
    split
    · rename_i h3
      split
      · refine still_none h9 ?_
        show idxI (isN m.num) (kept (bs.getD i default).n _) = -1
        rw [hn]
        exact idx_kept _ _
      · rename_i hk2
        obtain ⟨g1, g2, g3⟩ := hset { bs.getD i default with asked := keep (fun y => y == m.frm) (bs.getD i default).asked } rfl
        refine still_ack h8 g1 g3 ?_
        rw [g2]
        intro _
        exact ⟨keep_keep _ _, hk2⟩
    · rename_i h3
      refine still_ack h8 hx hi fun h4 => absurd h4 h3
theorem hear_twice {C : Cx} {nx : Int} {bs : List JbV} {m : MV} (hE : hrErr C nx bs m = 0) (hk : m.kind ≠ 9) (hb : bs.map JbV.bare = bs) (hb2 : (HearAns C nx bs m).js.map JbV.bare = (HearAns C nx bs m).js) :
    hrErr C (HearAns C nx bs m).next (HearAns C nx bs m).js m = 0 ∧ ∃ ms su, HearAns C (HearAns C nx bs m).next (HearAns C nx bs m).js m = ⟨(HearAns C nx bs m).next, (HearAns C nx bs m).js, ms, [], [], su, 0⟩ := by
  obtain ⟨hz, hk5, hk9⟩ := hr_zero hE
  obtain ⟨hs, hl, hm, hc, hd⟩ := rf_parts hz
  have hD := good_hear hE
  have hE2 : hrErr C (HearAns C nx bs m).next (HearAns C nx bs m).js m = 0 := by
    have hr2 := rf_of hc hl hm hD
    have h1 := hE
    unfold hrErr at h1 ⊢
    rw [if_pos hz] at h1
    rw [if_pos hr2]
    exact h1
  refine ⟨hE2, ?_⟩
  have e0 : HearAns C nx bs m = (⟨nx, bs, [], [], [], 0, 0⟩ : Tn).heard C m := by
    unfold HearAns
    rw [if_pos hE]
    unfold tn0
    rw [hb]
  have hS := heard_twice (C := C) (nl := (C.ls.length : Int)) (m := m) ⟨hk5, by omega⟩ hd
  rw [← e0] at hS
  have e1 : HearAns C (HearAns C nx bs m).next (HearAns C nx bs m).js m = (⟨(HearAns C nx bs m).next, (HearAns C nx bs m).js, [], [], [], 0, 0⟩ : Tn).heard C m := by
    have key : ∀ (a : Int) (b : List JbV), hrErr C a b m = 0 → b.map JbV.bare = b → HearAns C a b m = (⟨a, b, [], [], [], 0, 0⟩ : Tn).heard C m := fun a b h1 h2 => by
      unfold HearAns
      rw [if_pos h1]
      unfold tn0
      rw [h2]
    exact key _ _ hE2 hb2
  rw [e1]
  obtain ⟨s1, s2, s3, s4, s5⟩ := hS
  refine ⟨((⟨(HearAns C nx bs m).next, (HearAns C nx bs m).js, [], [], [], 0, 0⟩ : Tn).heard C m).ms, ((⟨(HearAns C nx bs m).next, (HearAns C nx bs m).js, [], [], [], 0, 0⟩ : Tn).heard C m).sure, ?_⟩
  generalize (⟨(HearAns C nx bs m).next, (HearAns C nx bs m).js, [], [], [], 0, 0⟩ : Tn).heard C m = u at s1 s2 s3 s4 s5
  obtain ⟨u1, u2, u3, u4, u5, u6, u7⟩ := u
  simp only at s1 s2 s3 s4 s5
  subst s1 s2 s3 s4 s5
  rfl
end Go.Proofs.YtdjnaahkcnklhaaDoor.Co
/- sameInts and sameDesk of reredoskeep: at desks that are the same as plain data they return true. -/
namespace Go.Proofs.YtdjnaahkcnklhaaDoor.Co
open Go.ChangeShapes Go.WideShapes Go.ChangeAt Go.RowKit
open Go.Proofs.YtdjnaahkcnklhaaDoor.St (BoxN boxn_new IsRow flat)
set_option linter.unusedVariables false

set_option maxHeartbeats 1000000 in
theorem sameInts_eq (a b : Option Addr) (n cap cap' : Nat) (zs : List Int) (w : World) (h : IsSites w a n cap zs) (h' : IsSites w b n cap' zs) :
    Calls Tryd.prog 31 #[.slice a n cap, .slice b n cap'] w fun e w' => e = .returned (.bool true) ∧ Below w.heap.size w w' := by
  have hmx : n ≤ maxLen := Nat.le_trans h.2.1 h.2.2.1
  unfold maxLen at hmx
  go_enter Tryd.func31, Tryd.ntmps31
  go_wp2
  go_loopw [5] (fun i wr => ∃ k : Nat, k ≤ n ∧ i = .int .i64 k ∧ Below w.heap.size w wr) (fun i _ => n - (intOf i).toNat)
  case atStart => exact ⟨0, Nat.zero_le _, rfl, Below.refl _ _⟩
  case round =>
    obtain ⟨k, hk, rfl, hb⟩ := hrel
    by_cases hlt : k < n
    · have hlt' : (k : Int) < (n : Int) := by omega
      obtain ⟨b1, o1, rfl, _, c1⟩ := (h.below hb).2.2.2.2 (by omega)
      obtain ⟨b2, o2, rfl, _, c2⟩ := (h'.below hb).2.2.2.2 (by omega)
      have e1 := c1 k hlt 0 (by decide)
      have e2 := c2 k hlt 0 (by decide)
      rw [Nat.mul_one, Nat.add_zero] at e1 e2
      obtain ⟨z, hz⟩ : ∃ z, z = zs.getD k default := ⟨_, rfl⟩
      rw [← hz] at e1 e2
      simp only [inCell, List.getElem?_cons_zero] at e1 e2
      clear hz c1 c2
      go_wp2
      go_quiet (fail)
      go_wp2
      go_roundw
      case rel => exact ⟨k + 1, by omega, by go_num, below_drewN hb nq⟩
      case measure => simp [intOf]; omega
    · go_wp2
      go_ret
      exact ⟨rfl, hb⟩
theorem bare_parts {j k : JbV} (h : j.bare = k.bare) : j.n = k.n ∧ j.state = k.state ∧ j.asks = k.asks ∧ j.age = k.age ∧ j.tasks = k.tasks ∧ j.asked = k.asked := by
  obtain ⟨n, st, ta, tl, tc, aa, al, ac, asks, age, tasks, asked⟩ := j
  obtain ⟨n', st', ta', tl', tc', aa', al', ac', asks', age', tasks', asked'⟩ := k
  simp [JbV.bare] at h
  exact ⟨h.1, h.2.1, h.2.2.1, h.2.2.2.1, h.2.2.2.2.1, h.2.2.2.2.2⟩
set_option maxRecDepth 100000 in
set_option maxHeartbeats 8000000 in
theorem sameDesk_eq (next : Int) (ja : Option Addr) (jl jc : Nat) (js : List JbV) (ka : Option Addr) (kc : Nat) (ks : List JbV) (w : World) (h : IsJobs w ja jl jc js) (h' : IsJobs w ka jl kc ks) (he : js.map JbV.bare = ks.map JbV.bare) :
    Calls Tryd.prog 12 #[.agg #[.int .i64 next, .slice ja jl jc], .agg #[.int .i64 next, .slice ka jl kc]] w fun e w' => e = .returned (.bool true) ∧ Below w.heap.size w w' := by
  have m1 : jl ≤ maxLen := Nat.le_trans h.row.2.1 h.row.2.2.1
  unfold maxLen at m1
  have hlj : js.length = jl := h.row.1
  have hlk : ks.length = jl := h'.row.1
  obtain ⟨W, hW⟩ : ∃ W : World, W = (w.alloc (.cells #[.int .i64 next, .slice ja jl jc] 29)).alloc (.cells #[.int .i64 next, .slice ka jl kc] 29) := ⟨_, rfl⟩
  have hB : Below w.heap.size w W := by rw [hW]; exact ((Below.refl _ _).alloc (Nat.le_refl _) _).alloc (by simp) _
  have zW : W.heap.size = w.heap.size + 2 := by rw [hW]; simp
  have z0 : w.heap.size < W.heap.size := by omega
  have z1 : w.heap.size + 1 < W.heap.size := by omega
  clear zW
  have c0 : W.cell? ⟨w.heap.size, 0, none⟩ = some (.int .i64 next) := by rw [hW]; go_simp
  have d0 : W.cell? ⟨w.heap.size + 1, 0, none⟩ = some (.int .i64 next) := by rw [hW]; go_simp
  have c1 : W.cell? ⟨w.heap.size, 1, none⟩ = some (.slice ja jl jc) := by rw [hW]; go_simp
  have d1 : W.cell? ⟨w.heap.size + 1, 1, none⟩ = some (.slice ka jl kc) := by rw [hW]; go_simp
  have KA : Hid (∀ U : World, Below W.heap.size W U → U.cell? ⟨w.heap.size, 1, none⟩ = some (.slice ja jl jc) ∧ U.cell? ⟨w.heap.size + 1, 1, none⟩ = some (.slice ka jl kc) ∧ w.heap.size < U.heap.size ∧ w.heap.size + 1 < U.heap.size) := fun U hU => ⟨(hU.cell (p := ⟨w.heap.size, 1, none⟩) z0).trans c1, (hU.cell (p := ⟨w.heap.size + 1, 1, none⟩) z1).trans d1, Nat.lt_of_lt_of_le z0 hU.size, Nat.lt_of_lt_of_le z1 hU.size⟩
  have HB : Hid (∀ U, Below W.heap.size W U → Below w.heap.size w U) := fun U hU => hB.trans (hU.mono hB.size)
  have HS : Hid (∀ U, Below W.heap.size W U → IsJobs U ja jl jc js) := fun U hU => h.below (HB.out U hU)
  have HS' : Hid (∀ U, Below W.heap.size W U → IsJobs U ka jl kc ks) := fun U hU => h'.below (HB.out U hU)
  have HP : Hid (∀ k, k < jl → (js.getD k default).bare = (ks.getD k default).bare) := fun k hk => by
    have := congrArg (fun l => l.getD k default) he
    simp only [List.getD, List.getElem?_map] at this
    simpa [List.getD, show k < js.length by omega, show k < ks.length by omega] using this
  have HM : Hid (∀ k, k < jl → js.getD k default ∈ js ∧ ks.getD k default ∈ ks) := fun k hk => ⟨mem_at (by omega), mem_at (by omega)⟩
  clear h h' he
  go_enter Tryd.func12, Tryd.ntmps12
  go_upto_region 1 with (fail)
  rw [← hW]
  clear hW
  have hb0 := Below.refl W.heap.size W
  go_upto_region 4 with (fail)
  clear c0 c1 d0 d1
  go_loopw [5, 6, 7, 8, 26] (fun _ _ _ _ i wr => ∃ k : Nat, k ≤ jl ∧ i = .int .i64 k ∧ Below W.heap.size W wr) (fun _ _ _ _ i _ => jl - (intOf i).toNat)
  case atStart => exact ⟨0, Nat.zero_le _, rfl, hb0⟩
  case round =>
    obtain ⟨k, hk, rfl, hb⟩ := hrel
    by_cases hlt : k < jl
    · have hlt' : (k : Int) < (jl : Int) := by omega
      obtain ⟨c1, d1, y0, y1⟩ := KA.out _ hb
      have hJ := HS.out _ hb
      have hK := HS'.out _ hb
      obtain ⟨b1, o1, rfl, zb1, k1⟩ := hJ.row.2.2.2.2 (by omega)
      obtain ⟨b2, o2, rfl, zb2, k2⟩ := hK.row.2.2.2.2 (by omega)
      have hjc : k < jc := Nat.lt_of_lt_of_le hlt hJ.row.2.1
      have hkc : k < kc := Nat.lt_of_lt_of_le hlt hK.row.2.1
      have e1 := k1 k hlt
      have e2 := k2 k hlt
      have hm := HM.out k hlt
      have f1 := hJ.each _ hm.1
      have f2 := hK.each _ hm.2
      have hp := bare_parts (HP.out k hlt)
      obtain ⟨x, ex⟩ : ∃ x, x = js.getD k default := ⟨_, rfl⟩
      obtain ⟨y, ey⟩ : ∃ y, y = ks.getD k default := ⟨_, rfl⟩
      rw [← ex] at e1 f1 hp
      rw [← ey] at e2 f2 hp
      clear ex ey hm k1 k2 hJ hK
      obtain ⟨n, st, ta, tl, tc, aa, al, ac, asks, age, tasks, asked⟩ := x
      obtain ⟨n', st', ta', tl', tc', aa', al', ac', asks', age', tasks', asked'⟩ := y
      simp only [] at hp
      obtain ⟨rfl, rfl, rfl, rfl, rfl, rfl⟩ := hp
      obtain rfl : tl = tl' := f1.tasks.1.symm.trans f2.tasks.1
      obtain rfl : al = al' := f1.asked.1.symm.trans f2.asked.1
      have p0 := e1 0 (by decide)
      have p1 := e1 1 (by decide)
      have p2 := e1 2 (by decide)
      have p3 := e1 3 (by decide)
      have p4 := e1 4 (by decide)
      have p5 := e1 5 (by decide)
      have q0 := e2 0 (by decide)
      have q1 := e2 1 (by decide)
      have q2 := e2 2 (by decide)
      have q3 := e2 3 (by decide)
      have q4 := e2 4 (by decide)
      have q5 := e2 5 (by decide)
      simp only [JbV.cells, List.getElem?_cons_zero, List.getElem?_cons_succ] at p0 p1 p2 p3 p4 p5 q0 q1 q2 q3 q4 q5
      rw [Nat.add_zero] at p0 q0
      clear e1 e2
      have m2 : tl ≤ maxLen := Nat.le_trans f1.tasks.2.1 f1.tasks.2.2.1
      unfold maxLen at m2
      obtain ⟨V, hV⟩ : ∃ V : World, V = (wr.alloc (.cells #[.int .i64 n, .int .i64 st, .slice ta tl tc, .slice aa al ac, .int .i64 asks, .int .i64 age] 84)).alloc (.cells #[.int .i64 n, .int .i64 st, .slice ta' tl tc', .slice aa' al ac', .int .i64 asks, .int .i64 age] 84) := ⟨_, rfl⟩
      have bV : Below wr.heap.size wr V := by rw [hV]; exact ((Below.refl _ _).alloc (Nat.le_refl _) _).alloc (by simp) _
      have zV : wr.heap.size + 1 < V.heap.size := by rw [hV]; simp
      have zV0 : wr.heap.size < V.heap.size := by omega
      have x0 : V.cell? ⟨wr.heap.size, 0, none⟩ = some (.int .i64 n) := by rw [hV]; go_simp
      have x1 : V.cell? ⟨wr.heap.size, 1, none⟩ = some (.int .i64 st) := by rw [hV]; go_simp
      have x2 : V.cell? ⟨wr.heap.size, 2, none⟩ = some (.slice ta tl tc) := by rw [hV]; go_simp
      have x3 : V.cell? ⟨wr.heap.size, 3, none⟩ = some (.slice aa al ac) := by rw [hV]; go_simp
      have x4 : V.cell? ⟨wr.heap.size, 4, none⟩ = some (.int .i64 asks) := by rw [hV]; go_simp
      have x5 : V.cell? ⟨wr.heap.size, 5, none⟩ = some (.int .i64 age) := by rw [hV]; go_simp
      have v0 : V.cell? ⟨wr.heap.size + 1, 0, none⟩ = some (.int .i64 n) := by rw [hV]; go_simp
      have v1 : V.cell? ⟨wr.heap.size + 1, 1, none⟩ = some (.int .i64 st) := by rw [hV]; go_simp
      have v2 : V.cell? ⟨wr.heap.size + 1, 2, none⟩ = some (.slice ta' tl tc') := by rw [hV]; go_simp
      have v3 : V.cell? ⟨wr.heap.size + 1, 3, none⟩ = some (.slice aa' al ac') := by rw [hV]; go_simp
      have v4 : V.cell? ⟨wr.heap.size + 1, 4, none⟩ = some (.int .i64 asks) := by rw [hV]; go_simp
      have v5 : V.cell? ⟨wr.heap.size + 1, 5, none⟩ = some (.int .i64 age) := by rw [hV]; go_simp
      have HI : Hid (Calls Tryd.prog 31 #[.slice aa al ac, .slice aa' al ac'] V fun e w' => e = .returned (.bool true) ∧ Below V.heap.size V w') := sameInts_eq aa aa' al ac ac' asked V (f1.asked.below bV) (f2.asked.below bV)
      have HT1 : Hid (∀ U, Below V.heap.size V U → IsTasks U ta tl tc tasks) := fun U hU => (f1.tasks.below bV).below hU
      have HT2 : Hid (∀ U, Below V.heap.size V U → IsTasks U ta' tl tc' tasks) := fun U hU => (f2.tasks.below bV).below hU
      have KB : Hid (∀ U, Below V.heap.size V U → U.cell? ⟨wr.heap.size, 2, none⟩ = some (.slice ta tl tc) ∧ U.cell? ⟨wr.heap.size + 1, 2, none⟩ = some (.slice ta' tl tc') ∧ wr.heap.size < U.heap.size ∧ wr.heap.size + 1 < U.heap.size ∧ Below W.heap.size W U) := fun U hU => ⟨(hU.cell (p := ⟨wr.heap.size, 2, none⟩) zV0).trans x2, (hU.cell (p := ⟨wr.heap.size + 1, 2, none⟩) zV).trans v2, Nat.lt_of_lt_of_le zV0 hU.size, Nat.lt_of_lt_of_le zV hU.size, hb.trans ((bV.trans (hU.mono bV.size)).mono hb.size)⟩
      clear f1 f2
      go_upto_region 8 with (fail)
      rw [← hV]
      clear hV p0 p1 p2 p3 p4 p5 q0 q1 q2 q3 q4 q5 c1 d1
      go_upto_region 10 with (go_at_call 31; refine HI.out.mono ?_; rintro e V1 ⟨rfl, hb1⟩)
      obtain ⟨s2, t2, zs, zt, -⟩ := KB.out _ hb1
      clear x0 x1 x2 x3 x4 x5 v0 v1 v2 v3 v4 v5 HI
      rename World => wo
      go_upto_region 11 with (fail)
      clear s2 t2 zs zt
      go_loopw [8, 85] (fun _ i wi => ∃ m : Nat, m ≤ tl ∧ i = .int .i64 m ∧ Below V.heap.size V wi) (fun _ i _ => tl - (intOf i).toNat)
      case atStart => exact ⟨0, Nat.zero_le _, rfl, hb1⟩
      case round =>
        obtain ⟨m, hm, rfl, hbm⟩ := hrel
        obtain ⟨s2, t2, zs, zt, hWm⟩ := KB.out _ hbm
        by_cases hlm : m < tl
        · have hlm' : (m : Int) < (tl : Int) := by omega
          have g1 := HT1.out _ hbm
          have g2 := HT2.out _ hbm
          obtain ⟨b3, o3, rfl, zb3, k3⟩ := g1.2.2.2.2 (by omega)
          obtain ⟨b4, o4, rfl, zb4, k4⟩ := g2.2.2.2.2 (by omega)
          have hmc : m < tc := Nat.lt_of_lt_of_le hlm g1.2.1
          have hmc' : m < tc' := Nat.lt_of_lt_of_le hlm g2.2.1
          have e3 := k3 m hlm
          have e4 := k4 m hlm
          obtain ⟨x, ex⟩ : ∃ x, x = tasks.getD m default := ⟨_, rfl⟩
          rw [← ex] at e3 e4
          clear ex k3 k4 g1 g2
          obtain ⟨write, label, key, value, version, ask, done, sure⟩ := x
          have p0 := e3 0 (by decide)
          have p1 := e3 1 (by decide)
          have p2 := e3 2 (by decide)
          have p3 := e3 3 (by decide)
          have p4 := e3 4 (by decide)
          have p5 := e3 5 (by decide)
          have p6 := e3 6 (by decide)
          have p7 := e3 7 (by decide)
          have q0 := e4 0 (by decide)
          have q1 := e4 1 (by decide)
          have q2 := e4 2 (by decide)
          have q3 := e4 3 (by decide)
          have q4 := e4 4 (by decide)
          have q5 := e4 5 (by decide)
          have q6 := e4 6 (by decide)
          have q7 := e4 7 (by decide)
          simp only [TkV.cells, List.getElem?_cons_zero, List.getElem?_cons_succ] at p0 p1 p2 p3 p4 p5 p6 p7 q0 q1 q2 q3 q4 q5 q6 q7
          rw [Nat.add_zero] at p0 q0
          clear e3 e4
          go_upto_region 13 with (fail)
          go_quiet (fail)
          go_wp2
          go_roundw
          case rel => exact ⟨m + 1, by omega, by go_num, below_drewN hbm nq⟩
          case measure => simp [intOf]; omega
        · have hlm' : ¬ (m : Int) < (tl : Int) := by omega
          go_wp2
          go_roundw
          case rel => exact ⟨k + 1, by omega, by go_num, hWm⟩
          case measure => simp [intOf]; omega
    · go_wp2
      go_ret
      exact ⟨rfl, HB.out _ hb⟩
end Go.Proofs.YtdjnaahkcnklhaaDoor.Co
