/- A desk of raw numbers: reredoskeep.Desk. -/
import Derived.Test.YtdjnaahkcnklhabDoorM30CommitAsks
import Derived.Test.YtdjnaahkcnklhabDoorM31CommitAsks
import Derived.Test.YtdjnaahkcnklhabDoorA42CommitAsks
namespace Go.Proofs.YtdjnaahkcnklhabDoor.Co
open Go.ChangeShapes Go.WideShapes Go.ChangeAt Go.RowKit
open Go.Proofs.YtdjnaahkcnklhabDoor.St (BoxN boxn_new own_below grown_setCell IsRow Elem flat flat_append own_isRow idxI)
open Go.Proofs.YtdjnaahkcnklhabDoor.Pt (LS2 cfg_two two_any)
set_option linter.unusedVariables false

/-- The desk so far, in its box at d. -/
structure DkSt (s nl L : Int) (B d : Nat) (W wr : World) (nx : Int) (da : Option Addr) (N dc : Nat) : Prop where
  box : BoxN wr d 2 [.int .i64 nx, .slice da N dc]
  dk : ∃ bs js ix more, N = bs.length ∧ DeskAt wr B da N dc js ix more ∧ js.map JbV.bare = bs ∧ DOK s nl nx bs
  bel : Below d W wr
  le : B ≤ wr.heap.size
  lim : nx ≤ L
theorem DkSt.below {s nl L : Int} {B d : Nat} {W wr u : World} {nx : Int} {da : Option Addr} {N dc : Nat} (h : DkSt s nl L B d W wr nx da N dc) (hb : Below wr.heap.size wr u) : DkSt s nl L B d W u nx da N dc := by
  obtain ⟨bs, js, ix, more, h1, h2, h3, h4⟩ := h.dk
  exact ⟨h.box.below hb h.box.lt, ⟨bs, js, ix, more, h1, h2.below hb, h3, h4⟩, h.bel.trans (hb.mono (Nat.le_of_lt h.box.lt)), Nat.le_trans h.le hb.size, h.lim⟩
theorem DkSt.more {s nl L L' : Int} {B d : Nat} {W wr : World} {nx : Int} {da : Option Addr} {N dc : Nat} (h : DkSt s nl L B d W wr nx da N dc) (hL : L ≤ L') : DkSt s nl L' B d W wr nx da N dc := ⟨h.box, h.dk, h.bel, h.le, Int.le_trans h.lim hL⟩
def set2 (u : World) (d : Nat) (a b : Value) : World := (u.setCell ⟨d, 0, none⟩ a).setCell ⟨d, 1, none⟩ b
theorem DkSt.put {s nl L L' : Int} {B d : Nat} {W wr : World} {nx : Int} {da : Option Addr} {N dc : Nat} (h : DkSt s nl L B d W wr nx da N dc) (hd : d < B) {nx' : Int} {bs : List JbV} {D : Value} (hD : DkIs B wr D nx' bs) (hok : DOK s nl nx' bs ∧ nx' ≤ L') : ∃ da' dc', D = .agg #[.int .i64 nx', .slice da' bs.length dc'] ∧ DkSt s nl L' B d W (set2 wr d (.int .i64 nx') (.slice da' bs.length dc')) nx' da' bs.length dc' := by
  obtain ⟨a, c, js, ix, more, rfl, h2, h3⟩ := hD
  refine ⟨a, c, rfl, ⟨(h.box.set 0 (by decide) _).set 1 (by decide) _, ⟨bs, js, ix, more, rfl, (h2.aside hd 0 _).aside hd 1 _, h3, hok.1⟩, ?_, by simpa [set2] using h.le, hok.2⟩⟩
  exact (h.bel.setCell (p := ⟨d, 0, none⟩) (Nat.le_refl _) _).setCell (p := ⟨d, 1, none⟩) (Nat.le_refl _) _
theorem good_back {C : Cx} {nx : Int} {bs : List JbV} {m : MV} {r : St.RV} (h : DOK C.s C.ls.length nx bs) : DOK C.s C.ls.length (backNx C nx bs m r) (backJs C nx bs m r) := by
  unfold backNx backJs
  by_cases hz : hrErr C nx bs (backM C.me m r) = 0
  · rw [if_pos hz, if_pos hz]; exact good_hear hz
  · rw [if_neg hz, if_neg hz]; exact h
theorem next_comm {C : Cx} {t : Tn} {i : Nat} : (t.comm C i).next = t.next := by
  unfold Tn.comm
  split <;> rfl
theorem next_call {C : Cx} {nx : Int} {bs : List JbV} {room : Int} {x : ClV} (h : clErr C nx bs x.kind = 0) : (CallAns C nx bs room x).next ≤ nx + 1 := by
  unfold CallAns
  rw [if_pos h]
  have e : (tn0 nx bs).next = nx := rfl
  generalize tn0 nx bs = t at e
  subst e
  unfold Tn.call
  split
  · unfold Tn.begun
    split
    · show t.next ≤ t.next + 1; omega
    · exact Int.le_refl _
  · split
    · show t.next ≤ t.next + 1; omega
    · split
      · show t.next ≤ t.next + 1; omega
      · split
        · show t.next ≤ t.next + 1; omega
        · split
          · show t.next ≤ t.next + 1; omega
          · split
            · unfold Tn.check
              split
              · rw [next_comm]; show t.next ≤ t.next + 1; omega
              · show t.next ≤ t.next + 1; omega
            · show t.next ≤ t.next + 1; omega
theorem next_hear {C : Cx} {nx : Int} {bs : List JbV} {m : MV} (h : hrErr C nx bs m = 0) : (HearAns C nx bs m).next = nx := by
  unfold HearAns
  rw [if_pos h]
  have e : (tn0 nx bs).next = nx := rfl
  generalize tn0 nx bs = t at e
  subst e
  unfold Tn.heard
  split
  · split
    · rfl
    · unfold Tn.doubted
      split <;> rfl
  · split
    · rfl
    · split
      · unfold Tn.answered
        split
        · split
          · rfl
          · split <;> rfl
        · rfl
      · split
        · unfold Tn.sured
          split
          · split
            · split
              · rw [next_comm]
              · rfl
            · rfl
          · rfl
        · unfold Tn.acked
          split
          · split <;> rfl
          · rfl
theorem next_back {C : Cx} {nx : Int} {bs : List JbV} {m : MV} {r : St.RV} : backNx C nx bs m r = nx := by
  unfold backNx
  split
  · rename_i h; exact next_hear h
  · rfl
def MadeIs (S1 most : Int) (w w' : World) (e : Ending) : Prop := (∃ D nx bs, e = .returned D ∧ DkIs w.heap.size w' D nx bs ∧ DOK S1 2 nx bs ∧ nx ≤ 1 + most) ∧ Below w.heap.size w w'
set_option maxRecDepth 100000 in
set_option maxHeartbeats 16000000 in
theorem desk_made (S1 l me : Int) (g0 : Nat) (a : Option Addr) (len cap : Nat) (rs : List St.RV) (most : Int) (w : World) (hS1 : 1 ≤ S1) (hS3 : S1 ≤ 3) (hll : l = 0 ∨ l = 1) (hme : 0 ≤ me ∧ me ≤ S1 - 1) (hl : IsLabs w (some ⟨g0, 0, none⟩) 2 2 LS2) (hr : St.IsRaws w a len cap rs) (hT : ∀ U, Below w.heap.size w U → Tables U) (hmo : 0 ≤ most ∧ most ≤ 1000) :
    Calls Tryd.prog 12 #[.agg #[.int .i64 S1, .slice (some ⟨g0, 0, none⟩) 2 2, .int .i64 3], .int .i64 l, .int .i64 me, .slice a len cap, .int .i64 most] w fun e w' => MadeIs S1 most w w' e := by
  have hcf : cfgFault S1 LS2 3 = 0 := cfg_two hS1 (by omega) (by omega) (by omega)
  have hlen := hr.row.1
  have hmx : len ≤ cap ∧ cap ≤ maxLen := ⟨hr.row.2.1, hr.row.2.2.1⟩
  unfold maxLen at hmx
  obtain ⟨hmx1, hmx2⟩ := hmx
  obtain ⟨W, hW⟩ : ∃ W : World, W = ((w.alloc (.cells #[.int .i64 S1, .slice (some ⟨g0, 0, none⟩) 2 2, .int .i64 3] 25)).alloc (.cells #[.int .i64 0, .slice none 0 0] 29)).alloc (.cells #[.int .i64 1, .slice none 0 0] 29) := ⟨_, rfl⟩
  have bW : Below w.heap.size w W := by rw [hW]; exact (((Below.refl _ _).alloc (Nat.le_refl _) _).alloc (by simp) _).alloc (by simp; omega) _
  have zW : W.heap.size = w.heap.size + 3 := by rw [hW]; simp
  have db : BoxN W (w.heap.size + 2) 2 [.int .i64 1, .slice none 0 0] := by
    rw [hW]
    have := boxn_new ((w.alloc (.cells #[.int .i64 S1, .slice (some ⟨g0, 0, none⟩) 2 2, .int .i64 3] 25)).alloc (.cells #[.int .i64 0, .slice none 0 0] 29)) #[.int .i64 1, .slice none 0 0] 29 2 rfl
    simpa using this
  have c0 : W.cell? ⟨w.heap.size, 0, none⟩ = some (.int .i64 S1) := by rw [hW]; go_simp
  have c1 : W.cell? ⟨w.heap.size, 1, none⟩ = some (.slice (some ⟨g0, 0, none⟩) 2 2) := by rw [hW]; go_simp
  have c2 : W.cell? ⟨w.heap.size, 2, none⟩ = some (.int .i64 3) := by rw [hW]; go_simp
  have e0 : W.cell? ⟨w.heap.size + 1, 0, none⟩ = some (.int .i64 0) ∧ W.frozen? ⟨w.heap.size + 1, 0, none⟩ = false := by rw [hW]; constructor <;> go_simp
  have e1 : W.cell? ⟨w.heap.size + 1, 1, none⟩ = some (.slice none 0 0) ∧ W.frozen? ⟨w.heap.size + 1, 1, none⟩ = false := by rw [hW]; constructor <;> go_simp
  /- what lies still while the desk's own box is told -/
  have KC : Hid (∀ U, Below (w.heap.size + 2) W U → (w.heap.size + 3) ≤ U.heap.size → (U.cell? ⟨w.heap.size, 0, none⟩ = some (.int .i64 S1) ∧ U.cell? ⟨w.heap.size, 1, none⟩ = some (.slice (some ⟨g0, 0, none⟩) 2 2) ∧ U.cell? ⟨w.heap.size, 2, none⟩ = some (.int .i64 3)) ∧ BoxN U (w.heap.size + 1) 2 [.int .i64 0, .slice none 0 0] ∧ Below w.heap.size w U) := fun U hU hz => by
    have hw : Below w.heap.size w U := bW.trans (hU.mono (by omega))
    refine ⟨⟨(hU.cell (p := ⟨w.heap.size, 0, none⟩) (by show w.heap.size < _; omega)).trans c0, (hU.cell (p := ⟨w.heap.size, 1, none⟩) (by show w.heap.size < _; omega)).trans c1, (hU.cell (p := ⟨w.heap.size, 2, none⟩) (by show w.heap.size < _; omega)).trans c2⟩, ⟨rfl, by omega, fun i hi => ?_⟩, hw⟩
    have hb := hU.block (w.heap.size + 1) (by omega)
    rcases (by omega : i = 0 ∨ i = 1) with rfl | rfl
    · exact ⟨(World.cell?_of_block (a := ⟨w.heap.size + 1, 0, none⟩) hb).trans e0.1, (World.frozen?_of_block (a := ⟨w.heap.size + 1, 0, none⟩) hb).trans e0.2⟩
    · exact ⟨(World.cell?_of_block (a := ⟨w.heap.size + 1, 1, none⟩) hb).trans e1.1, (World.frozen?_of_block (a := ⟨w.heap.size + 1, 1, none⟩) hb).trans e1.2⟩
  have H0 : Hid (DkSt S1 2 1 (w.heap.size + 3) (w.heap.size + 2) W W 1 none 0 0) := ⟨db, ⟨[], [], [], [], rfl, deskAt_nil W _, rfl, ⟨⟨by omega, by omega⟩, by simp, (fun j hj => by cases hj), List.Pairwise.nil⟩⟩, Below.refl _ _, by omega, Int.le_refl _⟩
  have HL : Hid (∀ U, Below w.heap.size w U → IsLabs U (some ⟨g0, 0, none⟩) 2 2 LS2 ∧ St.IsRaws U a len cap rs ∧ ∀ V, Below U.heap.size U V → Tables V) := fun U hU => ⟨hl.below hU, hr.below hU, fun V hV => hT V (hU.trans (hV.mono hU.size))⟩
  have HLen : Hid (rs.length = len) := hlen
  have HSs : Hid (DOK S1 2 1 []) := ⟨⟨by omega, by omega⟩, by simp, (fun j hj => by cases hj), List.Pairwise.nil⟩
  clear c0 c1 c2 e0 e1 db hl hr hT hlen
  go_enter Tryd.func12, Tryd.ntmps12
  go_upto_region 3 with (fail)
  rw [← hW]
  clear hW
  go_loopw [12, 13, 14, 15, 16, 18, 19, 20, 21] (fun s12 _ _ _ _ _ _ _ _ wr => ∃ k : Nat, s12 = .int .i64 (k : Int) ∧ k ≤ len ∧ Hid ((k : Int) ≤ most) ∧ Hid (∃ nx da N dc, DkSt S1 2 (1 + (k : Int)) (w.heap.size + 3) (w.heap.size + 2) W wr nx da N dc)) (fun s12 _ _ _ _ _ _ _ _ _ => len - (intOf s12).toNat)
  case atStart => exact ⟨0, rfl, Nat.zero_le _, hmo.1, ⟨1, none, 0, 0, H0.out⟩⟩
  case round =>
    obtain ⟨k, rfl, hk, HKM, hI⟩ := hrel
    obtain ⟨nx, da, N, dc, hS⟩ := hI.out
    obtain ⟨⟨c0, c1, c2⟩, rbx, hww⟩ := KC.out wr hS.bel hS.le
    obtain ⟨hlw, hrw, hTw⟩ := HL.out wr hww
    by_cases hlt : k < len
    · have hlt' : (k : Int) < (len : Int) := by omega
      by_cases hmst : (k : Int) < most
      · have HMS : Hid ((k : Int) < most) := hmst
        have zwr : w.heap.size + 3 ≤ wr.heap.size := hS.le
        have hrow := hrw.row
        have hrok := hrw.ok
        obtain ⟨b, off, rfl, zb, hcr⟩ := hrow.2.2.2.2 (by omega)
        have hkc : k < cap := by omega
        have hcells := hcr k hlt
        have hkr := hrok _ (mem_at (l := rs) (i := k) (by rw [HLen.out]; exact hlt))
        obtain ⟨rv, erv⟩ : ∃ rv, rv = rs.getD k default := ⟨_, rfl⟩
        rw [← erv] at hcells hkr
        clear erv hcr hrow hrok hrw
        obtain ⟨rk, ra, rb, rc, rd, re⟩ := rv
        have hkr2 := hkr
        obtain ⟨bk, ba, bb, bc, bd, be⟩ := hkr
        simp only [St.Bd] at bk ba bb bc bd be
        have a0 := hcells 0 (by decide)
        have a1 := hcells 1 (by decide)
        have a2 := hcells 2 (by decide)
        have a3 := hcells 3 (by decide)
        have a4 := hcells 4 (by decide)
        have a5 := hcells 5 (by decide)
        simp only [St.RV.cells, List.getElem?_cons_zero, List.getElem?_cons_succ, Nat.add_zero] at a0 a1 a2 a3 a4 a5
        clear hcells
        obtain ⟨V, hV⟩ : ∃ V : World, V = wr.alloc (.cells #[.int .i64 rk, .int .i64 ra, .int .i64 rb, .int .i64 rc, .int .i64 rd, .int .i64 re] 48) := ⟨_, rfl⟩
        have bV : Below wr.heap.size wr V := by rw [hV]; exact (Below.refl _ _).alloc (Nat.le_refl _) _
        have rwb : BoxN V wr.heap.size 6 [.int .i64 rk, .int .i64 ra, .int .i64 rb, .int .i64 rc, .int .i64 rd, .int .i64 re] := by rw [hV]; exact boxn_new wr #[.int .i64 rk, .int .i64 ra, .int .i64 rb, .int .i64 rc, .int .i64 rd, .int .i64 re] 48 6 rfl
        have hPk := fun u => picked_any rk 3 u bk (by omega) (by omega)
        have hPe := fun u => picked_any re 3 u be (by omega) (by omega)
        have hpk := pk_bd rk 3 (by omega)
        obtain ⟨PK, ePK⟩ : ∃ PK, PK = pk rk 3 := ⟨_, rfl⟩
        rw [← ePK] at hPk hpk
        clear ePK
        obtain ⟨PE, ePE⟩ : ∃ PE, PE = pk re 3 := ⟨_, rfl⟩
        rw [← ePE] at hPe
        clear ePE
        go_upto_region 6 with (fail)
        rw [← hV]
        clear hV a0 a1 a2 a3 a4 a5 c0 c1 c2
        replace hS := hS.below bV
        have v0 : V.cell? ⟨wr.heap.size, 0, none⟩ = some (.int .i64 rk) := (rwb.c 0 (by decide)).1
        have v1 : V.cell? ⟨wr.heap.size, 1, none⟩ = some (.int .i64 ra) := (rwb.c 1 (by decide)).1
        have v2 : V.cell? ⟨wr.heap.size, 2, none⟩ = some (.int .i64 rb) := (rwb.c 2 (by decide)).1
        have v3 : V.cell? ⟨wr.heap.size, 3, none⟩ = some (.int .i64 rc) := (rwb.c 3 (by decide)).1
        have v4 : V.cell? ⟨wr.heap.size, 4, none⟩ = some (.int .i64 rd) := (rwb.c 4 (by decide)).1
        have v5 : V.cell? ⟨wr.heap.size, 5, none⟩ = some (.int .i64 re) := (rwb.c 5 (by decide)).1
        have zrw := rwb.lt
        obtain ⟨⟨c0, c1, c2⟩, -, hwV⟩ := KC.out V hS.bel hS.le
        by_cases hp : 0 < PK
        · have hdv := tdiv_bd (n := rc) (m := 9) bc (by decide)
          have HAk : Hid (Calls Tryd.prog 33 #[.agg #[.int .i64 (rc.tdiv 9), .int .i64 ra, .int .i64 rb, .int .i64 rc, .int .i64 rd, .int .i64 0]] V fun e w' => ∃ c0 c1 c2 c3 c4 : Int, e = .returned (.agg #[.int .i64 c0, .int .i64 c1, .int .i64 c2, .int .i64 c3, .int .i64 c4]) ∧ (0 ≤ c3 ∧ c3 ≤ 3) ∧ Below V.heap.size V w') := ask_any (rc.tdiv 9) ra rb rc rd 0 V hdv ba bb bc bd
          go_upto_region 8 with (first | (go_at_call 9; refine (hPk _).mono ?_; rintro e u ⟨rfl, hu⟩; rw [hu]; clear hu) | (go_at_call 33; refine HAk.out.mono ?_; rintro e y1 ⟨x0, x1, x2, x3, x4, rfl, -, hb1⟩))
          obtain ⟨X, hX⟩ : ∃ X : World, X = y1.alloc (.cells #[.int .i64 x0, .int .i64 x1, .int .i64 x2, .int .i64 x3, .int .i64 x4] 39) := ⟨_, rfl⟩
          have bX1 : Below y1.heap.size y1 X := by rw [hX]; exact (Below.refl _ _).alloc (Nat.le_refl _) _
          have xb : BoxN X y1.heap.size 5 [.int .i64 x0, .int .i64 x1, .int .i64 x2, .int .i64 x3, .int .i64 x4] := by rw [hX]; exact boxn_new y1 #[.int .i64 x0, .int .i64 x1, .int .i64 x2, .int .i64 x3, .int .i64 x4] 39 5 rfl
          rw [← hX]
          have bX := nT hb1 bX1
          clear hX v0 v1 v2 v3 v4 v5 c0 c1 c2 HAk
          replace hS := hS.below bX
          replace rwb := rwb.below bX rwb.lt
          obtain ⟨⟨c0, c1, c2⟩, -, hwX⟩ := KC.out X hS.bel hS.le
          have d0 : X.cell? ⟨w.heap.size + 2, 0, none⟩ = some (.int .i64 nx) := (hS.box.c 0 (by decide)).1
          have d1 : X.cell? ⟨w.heap.size + 2, 1, none⟩ = some (.slice da N dc) := (hS.box.c 1 (by decide)).1
          have zd := hS.box.lt
          have x0c : X.cell? ⟨y1.heap.size, 0, none⟩ = some (.int .i64 x0) := (xb.c 0 (by decide)).1
          have x1c : X.cell? ⟨y1.heap.size, 1, none⟩ = some (.int .i64 x1) := (xb.c 1 (by decide)).1
          have x2c : X.cell? ⟨y1.heap.size, 2, none⟩ = some (.int .i64 x2) := (xb.c 2 (by decide)).1
          have x3c : X.cell? ⟨y1.heap.size, 3, none⟩ = some (.int .i64 x3) := (xb.c 3 (by decide)).1
          have x4c : X.cell? ⟨y1.heap.size, 4, none⟩ = some (.int .i64 x4) := (xb.c 4 (by decide)).1
          have zx := xb.lt
          obtain ⟨bs, js, ix, more, hN, hDk, hbs, hok⟩ := hS.dk
          have HCl : Hid (Calls Tryd.prog 8 #[.agg #[.int .i64 S1, .slice (some ⟨g0, 0, none⟩) 2 2, .int .i64 3], .int .i64 l, .int .i64 me, .agg #[.int .i64 nx, .slice da N dc], .int .i64 6000, .agg #[.int .i64 x0, .int .i64 x1, .int .i64 x2, .int .i64 x3, .int .i64 x4]] X fun e w' => ∃ (v' : CkV) (ix' : List (Nat × Nat)) (more' : List Rw), e = .returned (.tuple #[v'.turn, .int .i64 (clErr ⟨S1, LS2, 3, l, me⟩ nx bs x0)]) ∧ Live X.heap.size w' v' ix' more' (CallAns ⟨S1, LS2, 3, l, me⟩ nx bs 6000 ⟨x0, x1, x2, x3, x4⟩) ∧ Below X.heap.size X w') := by
            rw [hN] at hDk ⊢
            exact call_dk S1 3 (some ⟨g0, 0, none⟩) 2 2 LS2 l me nx da dc bs 6000 ⟨x0, x1, x2, x3, x4⟩ X (HL.out X hwX).1 hDk hbs
          have HGd : Hid (clErr ⟨S1, LS2, 3, l, me⟩ nx bs x0 = 0 → DOK S1 2 (CallAns ⟨S1, LS2, 3, l, me⟩ nx bs 6000 ⟨x0, x1, x2, x3, x4⟩).next (CallAns ⟨S1, LS2, 3, l, me⟩ nx bs 6000 ⟨x0, x1, x2, x3, x4⟩).js ∧ (CallAns ⟨S1, LS2, 3, l, me⟩ nx bs 6000 ⟨x0, x1, x2, x3, x4⟩).next ≤ 2 + (k : Int)) := fun h => ⟨good_call (C := ⟨S1, LS2, 3, l, me⟩) (x := ⟨x0, x1, x2, x3, x4⟩) h, by have h8 := next_call (C := ⟨S1, LS2, 3, l, me⟩) (room := 6000) (x := ⟨x0, x1, x2, x3, x4⟩) h; have h9 := hS.lim; omega⟩
          obtain ⟨T, eT⟩ : ∃ T, T = CallAns ⟨S1, LS2, 3, l, me⟩ nx bs 6000 ⟨x0, x1, x2, x3, x4⟩ := ⟨_, rfl⟩
          obtain ⟨E, eE⟩ : ∃ E, E = clErr ⟨S1, LS2, 3, l, me⟩ nx bs x0 := ⟨_, rfl⟩
          rw [← eT] at HCl HGd
          rw [← eE] at HCl HGd
          have HS : Hid (DkSt S1 2 (1 + (k : Int)) (w.heap.size + 3) (w.heap.size + 2) W X nx da N dc) := hS
          clear eT eE hDk hbs hok hN hS
          go_upto_region 9 with (go_at_call 8; refine HCl.out.mono ?_; rintro e y ⟨V2, iz, mz, rfl, hLv, hby⟩; simp only [CkV.turn])
          obtain ⟨Z, eZ⟩ : ∃ Z : World, Z = y.alloc (.cells #[.int .i64 V2.next, .slice V2.ja V2.jl V2.jc, .slice V2.ma V2.ml V2.mc, .slice V2.ra V2.rl V2.rc, .slice V2.pa V2.pl V2.pc, .int .i64 V2.sure, .int .i64 V2.com] 34) := ⟨_, rfl⟩
          have bZ : Below y.heap.size y Z := by rw [eZ]; exact (Below.refl _ _).alloc (Nat.le_refl _) _
          have tb : BoxN Z y.heap.size 7 [.int .i64 V2.next, .slice V2.ja V2.jl V2.jc, .slice V2.ma V2.ml V2.mc, .slice V2.ra V2.rl V2.rc, .slice V2.pa V2.pl V2.pc, .int .i64 V2.sure, .int .i64 V2.com] := by rw [eZ]; exact boxn_new y #[.int .i64 V2.next, .slice V2.ja V2.jl V2.jc, .slice V2.ma V2.ml V2.mc, .slice V2.ra V2.rl V2.rc, .slice V2.pa V2.pl V2.pc, .int .i64 V2.sure, .int .i64 V2.com] 34 7 rfl
          rw [← eZ]
          have bXZ := nT hby bZ
          clear eZ d0 d1 c0 c1 c2 x0c x1c x2c x3c x4c xb
          have hSZ := HS.out.below bXZ
          have hLZ := hLv.below bZ
          have rwZ := rwb.below bXZ rwb.lt
          clear hLv HCl rwb
          have hbase : w.heap.size + 3 ≤ X.heap.size := HS.out.le
          by_cases hE : E = 0
          · subst hE
            have hok := HGd.out rfl
            obtain ⟨da2, dc2, eD, hS2⟩ := hSZ.put (by omega) ((hLZ.base hbase).dk) hok
            have t0 : Z.cell? ⟨y.heap.size, 0, none⟩ = some (.int .i64 V2.next) := (tb.c 0 (by decide)).1
            have t1 : Z.cell? ⟨y.heap.size, 1, none⟩ = some (.slice V2.ja V2.jl V2.jc) := (tb.c 1 (by decide)).1
            have zt := tb.lt
            have d0 : Z.cell? ⟨w.heap.size + 2, 0, none⟩ = some (.int .i64 nx) := (hSZ.box.c 0 (by decide)).1
            have d1 : Z.cell? ⟨w.heap.size + 2, 1, none⟩ = some (.slice da N dc) := (hSZ.box.c 1 (by decide)).1
            have df0 := (hSZ.box.c 0 (by decide)).2
            have df1 := (hSZ.box.c 1 (by decide)).2
            have zd := hSZ.box.lt
            have hdy : w.heap.size + 2 < y.heap.size := by have := hby.size; omega
            have tb2 : BoxN (set2 Z (w.heap.size + 2) (.int .i64 V2.next) (.slice V2.ja V2.jl V2.jc)) y.heap.size 7 [.int .i64 V2.next, .slice V2.ja V2.jl V2.jc, .slice V2.ma V2.ml V2.mc, .slice V2.ra V2.rl V2.rc, .slice V2.pa V2.pl V2.pc, .int .i64 V2.sure, .int .i64 V2.com] := (tb.far (c := w.heap.size + 2) (by omega)).far (by omega)
            have hL2 : Live (w.heap.size + 3) (set2 Z (w.heap.size + 2) (.int .i64 V2.next) (.slice V2.ja V2.jl V2.jc)) V2 iz mz T := by
              have hl3 := hLZ.base hbase
              have hfar := hl3.farOld (r := w.heap.size + 2) (by omega)
              exact (hl3.aside hfar 0 _).aside hfar 1 _
            have rw2 : BoxN (set2 Z (w.heap.size + 2) (.int .i64 V2.next) (.slice V2.ja V2.jl V2.jc)) wr.heap.size 6 [.int .i64 rk, .int .i64 ra, .int .i64 rb, .int .i64 rc, .int .i64 rd, .int .i64 re] := by
              have hwz : w.heap.size + 2 ≠ wr.heap.size := by have := zwr; omega
              exact (rwZ.far (c := w.heap.size + 2) (fun e => hwz e.symm)).far (fun e => hwz e.symm)
            have eDn : Value.int .i64 V2.next = Value.int .i64 T.next ∧ Value.slice V2.ja V2.jl V2.jc = Value.slice da2 T.js.length dc2 := by
              simp at eD
              exact ⟨by rw [eD.1], by rw [eD.2.1, eD.2.2.1, eD.2.2.2]⟩
            rw [← eDn.1, ← eDn.2] at hS2
            obtain ⟨Y, eY⟩ : ∃ Y, Y = set2 Z (w.heap.size + 2) (.int .i64 V2.next) (.slice V2.ja V2.jl V2.jc) := ⟨_, rfl⟩
            rw [← eY] at hS2 tb2 hL2 rw2
            unfold set2 at eY
            have hmm := hL2.msgs
            have hml : V2.ml ≤ V2.mc ∧ V2.mc ≤ maxLen := ⟨hmm.2.1, hmm.2.2.1⟩
            unfold maxLen at hml
            obtain ⟨hml1, hml2⟩ := hml
            clear hmm eD eDn
            go_upto_region 11 with (fail)
            rw [← eY]
            clear eY
            have y2c : Y.cell? ⟨y.heap.size, 2, none⟩ = some (.slice V2.ma V2.ml V2.mc) := (tb2.c 2 (by decide)).1
            have zy := tb2.lt
            have HI2 : Hid (∃ nx da N dc, DkSt S1 2 (2 + (k : Int)) (w.heap.size + 3) (w.heap.size + 2) W Y nx da N dc) := ⟨_, _, _, _, hS2⟩
            have HL2 : Hid (Live (w.heap.size + 3) Y V2 iz mz T) := hL2
            have HR2 : Hid (BoxN Y wr.heap.size 6 [.int .i64 rk, .int .i64 ra, .int .i64 rb, .int .i64 rc, .int .i64 rd, .int .i64 re]) := rw2
            clear t0 t1 d0 d1 df0 df1 hS2 hL2 rw2 tb2 hSZ hLZ rwZ tb hI
            go_upto_region 12 with (fail)
            clear y2c
            go_loopw [18, 71] (fun _ s71 wi => ∃ n : Nat, s71 = .int .i64 (n : Int) ∧ n ≤ V2.ml ∧ Hid (∃ nx da N dc, DkSt S1 2 (2 + (k : Int)) (w.heap.size + 3) (w.heap.size + 2) W wi nx da N dc) ∧ Hid (Live (w.heap.size + 3) wi V2 iz mz T) ∧ Hid (BoxN wi wr.heap.size 6 [.int .i64 rk, .int .i64 ra, .int .i64 rb, .int .i64 rc, .int .i64 rd, .int .i64 re])) (fun _ s71 _ => V2.ml - (intOf s71).toNat)
            case atStart => exact ⟨0, rfl, Nat.zero_le _, HI2, HL2, HR2⟩
            case round =>
              obtain ⟨n, rfl, hn, hI2, hLi, hRi⟩ := hrel
              by_cases hlm : n < V2.ml
              · have hlm' : (n : Int) < (V2.ml : Int) := by omega
                have hmr := hLi.out.msgs
                obtain ⟨mb, mo, emb, zmb, hmc⟩ := hmr.2.2.2.2 (by omega)
                have hnc : n < V2.mc := by omega
                have hmcell := hmc n hlm
                obtain ⟨mv, emv⟩ : ∃ mv, mv = V2.ms.getD n default := ⟨_, rfl⟩
                rw [← emv] at hmcell
                clear emv hmc hmr
                obtain ⟨kind, frm, dst, site, num, label, key, value, version, ask, yes, code⟩ := mv
                have m0 := hmcell 0 (by decide)
                have m1 := hmcell 1 (by decide)
                have m2 := hmcell 2 (by decide)
                have m3 := hmcell 3 (by decide)
                have m4 := hmcell 4 (by decide)
                have m5 := hmcell 5 (by decide)
                have m6 := hmcell 6 (by decide)
                have m7 := hmcell 7 (by decide)
                have m8 := hmcell 8 (by decide)
                have m9 := hmcell 9 (by decide)
                have m10 := hmcell 10 (by decide)
                have m11 := hmcell 11 (by decide)
                simp only [mcells, List.getElem?_cons_zero, List.getElem?_cons_succ, Nat.add_zero] at m0 m1 m2 m3 m4 m5 m6 m7 m8 m9 m10 m11
                clear hmcell
                obtain ⟨vma, evma⟩ : ∃ vma, vma = V2.ma := ⟨_, rfl⟩
                rw [← evma] at emb ⊢
                subst emb
                clear evma
                obtain ⟨nx1, da1, N1, dc1, hS1i⟩ := hI2.out
                obtain ⟨U1, hU1⟩ : ∃ U1 : World, U1 = wr.alloc (.cells #[.int .i64 kind, .int .i64 frm, .int .i64 dst, .int .i64 site, .int .i64 num, .int .i64 label, .int .i64 key, .int .i64 value, .int .i64 version, .int .i64 ask, .bool yes, .int .i64 code] 46) := ⟨_, rfl⟩
                have bU1 : Below wr.heap.size wr U1 := by rw [hU1]; exact (Below.refl _ _).alloc (Nat.le_refl _) _
                have mbx : BoxN U1 wr.heap.size 12 [.int .i64 kind, .int .i64 frm, .int .i64 dst, .int .i64 site, .int .i64 num, .int .i64 label, .int .i64 key, .int .i64 value, .int .i64 version, .int .i64 ask, .bool yes, .int .i64 code] := by rw [hU1]; exact boxn_new wr #[.int .i64 kind, .int .i64 frm, .int .i64 dst, .int .i64 site, .int .i64 num, .int .i64 label, .int .i64 key, .int .i64 value, .int .i64 version, .int .i64 ask, .bool yes, .int .i64 code] 46 12 rfl
                go_upto_region 14 with (fail)
                rw [← hU1]
                clear hU1 m0 m1 m2 m3 m4 m5 m6 m7 m8 m9 m10 m11
                replace hS1i := hS1i.below bU1
                have hRu := hRi.out.below bU1 hRi.out.lt
                have hLu := hLi.out.below bU1
                have w0 := (hRu.c 0 (by decide)).1
                have w1 := (hRu.c 1 (by decide)).1
                have w2 := (hRu.c 2 (by decide)).1
                have w3 := (hRu.c 3 (by decide)).1
                have w4 := (hRu.c 4 (by decide)).1
                have w5 := (hRu.c 5 (by decide)).1
                simp only [List.getD_cons_zero, List.getD_cons_succ] at w0 w1 w2 w3 w4 w5
                have zru := hRu.lt
                have n0 : U1.cell? ⟨wr.heap.size, 0, none⟩ = some (.int .i64 kind) := (mbx.c 0 (by decide)).1
                have n1 : U1.cell? ⟨wr.heap.size, 1, none⟩ = some (.int .i64 frm) := (mbx.c 1 (by decide)).1
                have n2 : U1.cell? ⟨wr.heap.size, 2, none⟩ = some (.int .i64 dst) := (mbx.c 2 (by decide)).1
                have n3 : U1.cell? ⟨wr.heap.size, 3, none⟩ = some (.int .i64 site) := (mbx.c 3 (by decide)).1
                have n4 : U1.cell? ⟨wr.heap.size, 4, none⟩ = some (.int .i64 num) := (mbx.c 4 (by decide)).1
                have n5 : U1.cell? ⟨wr.heap.size, 5, none⟩ = some (.int .i64 label) := (mbx.c 5 (by decide)).1
                have n6 : U1.cell? ⟨wr.heap.size, 6, none⟩ = some (.int .i64 key) := (mbx.c 6 (by decide)).1
                have n7 : U1.cell? ⟨wr.heap.size, 7, none⟩ = some (.int .i64 value) := (mbx.c 7 (by decide)).1
                have n8 : U1.cell? ⟨wr.heap.size, 8, none⟩ = some (.int .i64 version) := (mbx.c 8 (by decide)).1
                have n9 : U1.cell? ⟨wr.heap.size, 9, none⟩ = some (.int .i64 ask) := (mbx.c 9 (by decide)).1
                have n10 : U1.cell? ⟨wr.heap.size, 10, none⟩ = some (.bool yes) := (mbx.c 10 (by decide)).1
                have n11 : U1.cell? ⟨wr.heap.size, 11, none⟩ = some (.int .i64 code) := (mbx.c 11 (by decide)).1
                have znu := mbx.lt
                obtain ⟨⟨c0, c1, c2⟩, -, hwU⟩ := KC.out U1 hS1i.bel hS1i.le
                have d0 : U1.cell? ⟨w.heap.size + 2, 0, none⟩ = some (.int .i64 nx1) := (hS1i.box.c 0 (by decide)).1
                have d1 : U1.cell? ⟨w.heap.size + 2, 1, none⟩ = some (.slice da1 N1 dc1) := (hS1i.box.c 1 (by decide)).1
                have zd1 := hS1i.box.lt
                by_cases hpe : 0 < PE
                · obtain ⟨bs1, js1, ix1, mo1, hN1, hDk1, hbs1, hok1⟩ := hS1i.dk
                  have HBk : Hid (Calls Tryd.prog 10 #[.agg #[.int .i64 S1, .slice (some ⟨g0, 0, none⟩) 2 2, .int .i64 3], .int .i64 l, .int .i64 me, .agg #[.int .i64 nx1, .slice da1 N1 dc1], .agg #[.int .i64 kind, .int .i64 frm, .int .i64 dst, .int .i64 site, .int .i64 num, .int .i64 label, .int .i64 key, .int .i64 value, .int .i64 version, .int .i64 ask, .bool yes, .int .i64 code], .agg #[.int .i64 rk, .int .i64 ra, .int .i64 rb, .int .i64 rc, .int .i64 rd, .int .i64 re]] U1 fun e w' => BackIs (w.heap.size + 3) U1 w' (backNx ⟨S1, LS2, 3, l, me⟩ nx1 bs1 ⟨kind, frm, dst, site, num, label, key, value, version, ask, yes, code⟩ ⟨rk, ra, rb, rc, rd, re⟩) (backJs ⟨S1, LS2, 3, l, me⟩ nx1 bs1 ⟨kind, frm, dst, site, num, label, key, value, version, ask, yes, code⟩ ⟨rk, ra, rb, rc, rd, re⟩) e) := by
                    have hDI : DkIs (w.heap.size + 3) U1 (.agg #[.int .i64 nx1, .slice da1 N1 dc1]) nx1 bs1 := ⟨da1, dc1, js1, ix1, mo1, by rw [hN1], by rw [← hN1]; exact hDk1, hbs1⟩
                    exact back_any S1 3 (some ⟨g0, 0, none⟩) 2 2 LS2 l me nx1 _ bs1 ⟨kind, frm, dst, site, num, label, key, value, version, ask, yes, code⟩ ⟨rk, ra, rb, rc, rd, re⟩ U1 hS1i.le (HL.out U1 hwU).1 hDI (HL.out U1 hwU).2.2 hkr2
                  have hokB : _ ∧ backNx ⟨S1, LS2, 3, l, me⟩ nx1 bs1 ⟨kind, frm, dst, site, num, label, key, value, version, ask, yes, code⟩ ⟨rk, ra, rb, rc, rd, re⟩ ≤ 2 + (k : Int) := ⟨good_back (C := ⟨S1, LS2, 3, l, me⟩) (m := ⟨kind, frm, dst, site, num, label, key, value, version, ask, yes, code⟩) (r := ⟨rk, ra, rb, rc, rd, re⟩) hok1, by rw [next_back]; exact hS1i.lim⟩
                  obtain ⟨nx2, enx2⟩ : ∃ x, x = backNx ⟨S1, LS2, 3, l, me⟩ nx1 bs1 ⟨kind, frm, dst, site, num, label, key, value, version, ask, yes, code⟩ ⟨rk, ra, rb, rc, rd, re⟩ := ⟨_, rfl⟩
                  obtain ⟨bs2, ebs2⟩ : ∃ x, x = backJs ⟨S1, LS2, 3, l, me⟩ nx1 bs1 ⟨kind, frm, dst, site, num, label, key, value, version, ask, yes, code⟩ ⟨rk, ra, rb, rc, rd, re⟩ := ⟨_, rfl⟩
                  rw [← enx2, ← ebs2] at HBk hokB
                  have HOB : Hid (DOK S1 2 nx2 bs2 ∧ nx2 ≤ 2 + (k : Int)) := hokB
                  have HS1i : Hid (DkSt S1 2 (2 + (k : Int)) (w.heap.size + 3) (w.heap.size + 2) W U1 nx1 da1 N1 dc1) := hS1i
                  have HLu : Hid (Live (w.heap.size + 3) U1 V2 iz mz T) := hLu
                  have HRu : Hid _ := hRu
                  obtain ⟨N2, eN2⟩ : ∃ N2, N2 = bs2.length := ⟨_, rfl⟩
                  have HBk2 : Hid (Calls Tryd.prog 10 #[.agg #[.int .i64 S1, .slice (some ⟨g0, 0, none⟩) 2 2, .int .i64 3], .int .i64 l, .int .i64 me, .agg #[.int .i64 nx1, .slice da1 N1 dc1], .agg #[.int .i64 kind, .int .i64 frm, .int .i64 dst, .int .i64 site, .int .i64 num, .int .i64 label, .int .i64 key, .int .i64 value, .int .i64 version, .int .i64 ask, .bool yes, .int .i64 code], .agg #[.int .i64 rk, .int .i64 ra, .int .i64 rb, .int .i64 rc, .int .i64 rd, .int .i64 re]] U1 fun e w' => ∃ (a2 : Option Addr) (c2 : Nat), e = .returned (.agg #[.int .i64 nx2, .slice a2 N2 c2]) ∧ DkIs (w.heap.size + 3) w' (.agg #[.int .i64 nx2, .slice a2 N2 c2]) nx2 bs2 ∧ Below U1.heap.size U1 w') := by
                    refine HBk.out.mono ?_
                    rintro e x ⟨⟨D2, rfl, hD2⟩, hb2⟩
                    have hD3 := hD2
                    obtain ⟨a2, c2, js2, ix2, mo2, rfl, -, -⟩ := hD2
                    refine ⟨a2, c2, by rw [eN2], by rw [eN2]; exact hD3, hb2⟩
                  have HN2 : Hid (N2 = bs2.length) := eN2
                  clear enx2 ebs2 hokB hok1 hDk1 hbs1 hN1 hS1i hLu hRu HBk mbx eN2
                  go_upto_region 16 with (first | (go_at_call 9; refine (hPe _).mono ?_; rintro e u ⟨rfl, hu⟩; rw [hu]; clear hu) | (go_at_call 10; refine HBk2.out.mono ?_; rintro e y2 ⟨a2, cc2, rfl, hD2, hb2⟩; have HD2 : Hid _ := hD2; clear hD2; have hSy := HS1i.out.below hb2; have e0 := (hSy.box.c 0 (by decide)).1; have ef0 := (hSy.box.c 0 (by decide)).2; have e1 := (hSy.box.c 1 (by decide)).1; have ef1 := (hSy.box.c 1 (by decide)).2; have zey := hSy.box.lt; simp only [List.getD_cons_zero, List.getD_cons_succ] at e0 e1; have HSy : Hid _ := hSy; clear hSy))
                  obtain ⟨da3, dc3, eD3, hS3⟩ := HSy.out.put (by omega) HD2.out HOB.out
                  simp at eD3
                  obtain ⟨rfl, hN3, rfl⟩ := eD3
                  have hL3 : Live (w.heap.size + 3) (set2 y2 (w.heap.size + 2) (.int .i64 nx2) (.slice a2 bs2.length cc2)) V2 iz mz T := by
                    have hl4 := HLu.out.below hb2
                    have hfar := hl4.farOld (r := w.heap.size + 2) (by omega)
                    exact (hl4.aside hfar 0 _).aside hfar 1 _
                  have hR3 := HRu.out.below hb2 HRu.out.lt
                  have hR4 := (hR3.far (c := w.heap.size + 2) (k := 0) (v := .int .i64 nx2) (by omega)).far (c := w.heap.size + 2) (k := 1) (v := .slice a2 bs2.length cc2) (by omega)
                  unfold set2 at hS3 hL3
                  have HI3 : Hid (∃ nx da N dc, DkSt S1 2 (2 + (k : Int)) (w.heap.size + 3) (w.heap.size + 2) W _ nx da N dc) := ⟨_, _, _, _, hS3⟩
                  have HL3 : Hid _ := hL3
                  have HR3 : Hid _ := hR4
                  clear hS3 hL3 hR3 hR4 e0 e1 ef0 ef1
                  go_wp2
                  go_roundw
                  case rel => exact ⟨n + 1, by go_num, by omega, HI3, HL3, HR3⟩
                  case measure => simp [intOf]; omega
                · have hpe' : PE ≤ 0 := by omega
                  have HI3 : Hid (∃ nx da N dc, DkSt S1 2 (2 + (k : Int)) (w.heap.size + 3) (w.heap.size + 2) W U1 nx da N dc) := ⟨_, _, _, _, hS1i⟩
                  have HL3 : Hid _ := hLu
                  have HR3 : Hid _ := hRu
                  clear hS1i hLu hRu
                  go_wp2_with (go_at_call 9; refine (hPe _).mono ?_; rintro e u ⟨rfl, hu⟩; rw [hu]; clear hu)
                  go_roundw
                  case rel => exact ⟨n + 1, by go_num, by omega, HI3, HL3, HR3⟩
                  case measure => simp [intOf]; omega
              · have hlm' : ¬ (n : Int) < (V2.ml : Int) := by omega
                go_wp2
                go_roundw
                case rel => exact ⟨k + 1, by go_num, by omega, by have := HMS.out; exact (by omega : (((k + 1 : Nat)) : Int) ≤ most), by obtain ⟨q1, q2, q3, q4, q5⟩ := hI2.out; exact ⟨q1, q2, q3, q4, q5.more (by omega)⟩⟩
                case measure => simp [intOf]; omega
          · have hE' : (E == 0) = false := by simpa using hE
            have HI9 : Hid (∃ nx da N dc, DkSt S1 2 (1 + ((k + 1 : Nat) : Int)) (w.heap.size + 3) (w.heap.size + 2) W Z nx da N dc) := ⟨nx, da, N, dc, hSZ.more (by omega)⟩
            clear hSZ hLZ rwZ hI
            go_wp2
            go_roundw
            case rel => exact ⟨k + 1, by go_num, by omega, by have := HMS.out; exact (by omega : (((k + 1 : Nat)) : Int) ≤ most), HI9⟩
            case measure => simp [intOf]; omega
        · have hp' : PK ≤ 0 := by omega
          have HMg : Hid (Calls Tryd.prog 34 #[.agg #[.int .i64 S1, .slice (some ⟨g0, 0, none⟩) 2 2, .int .i64 3], .agg #[.int .i64 rk, .int .i64 ra, .int .i64 rb, .int .i64 rc, .int .i64 rd, .int .i64 re]] V fun e w' => ∃ m : MV, e = .returned m.val ∧ msgFault S1 LS2 3 m = 0 ∧ Below V.heap.size V w') := msg_good S1 3 g0 2 2 LS2 rk ra rb rc rd re V ⟨(HL.out V hwV).1, hcf, hS1, hS3, by decide, by decide, rfl⟩ bk ba bb bc bd be
          go_upto_region 17 with (go_at_call 9; refine (hPk _).mono ?_; rintro e u ⟨rfl, hu⟩; rw [hu]; clear hu)
          go_upto_region 20 with (go_at_call 34; refine HMg.out.mono ?_; rintro e y1 ⟨⟨kind, frm, dst, site, num, label, key, value, version, ask, yes, code⟩, rfl, -, hb1⟩; simp only [MV.val])
          obtain ⟨X, hX⟩ : ∃ X : World, X = y1.alloc (.cells #[.int .i64 kind, .int .i64 frm, .int .i64 me, .int .i64 me, .int .i64 num, .int .i64 label, .int .i64 key, .int .i64 value, .int .i64 version, .int .i64 ask, .bool yes, .int .i64 code] 46) := ⟨_, rfl⟩
          have bX1 : Below y1.heap.size y1 X := by rw [hX]; exact (Below.refl _ _).alloc (Nat.le_refl _) _
          have xb : BoxN X y1.heap.size 12 [.int .i64 kind, .int .i64 frm, .int .i64 me, .int .i64 me, .int .i64 num, .int .i64 label, .int .i64 key, .int .i64 value, .int .i64 version, .int .i64 ask, .bool yes, .int .i64 code] := by rw [hX]; exact boxn_new y1 #[.int .i64 kind, .int .i64 frm, .int .i64 me, .int .i64 me, .int .i64 num, .int .i64 label, .int .i64 key, .int .i64 value, .int .i64 version, .int .i64 ask, .bool yes, .int .i64 code] 46 12 rfl
          rw [← hX]
          have bX := nT hb1 bX1
          clear hX v0 v1 v2 v3 v4 v5 c0 c1 c2 HMg rwb
          replace hS := hS.below bX
          obtain ⟨⟨c0, c1, c2⟩, -, hwX⟩ := KC.out X hS.bel hS.le
          have d0 : X.cell? ⟨w.heap.size + 2, 0, none⟩ = some (.int .i64 nx) := (hS.box.c 0 (by decide)).1
          have d1 : X.cell? ⟨w.heap.size + 2, 1, none⟩ = some (.slice da N dc) := (hS.box.c 1 (by decide)).1
          have zd := hS.box.lt
          have x0c : X.cell? ⟨y1.heap.size, 0, none⟩ = some (.int .i64 kind) := (xb.c 0 (by decide)).1
          have x1c : X.cell? ⟨y1.heap.size, 1, none⟩ = some (.int .i64 frm) := (xb.c 1 (by decide)).1
          have x2c : X.cell? ⟨y1.heap.size, 2, none⟩ = some (.int .i64 me) := (xb.c 2 (by decide)).1
          have x3c : X.cell? ⟨y1.heap.size, 3, none⟩ = some (.int .i64 me) := (xb.c 3 (by decide)).1
          have x4c : X.cell? ⟨y1.heap.size, 4, none⟩ = some (.int .i64 num) := (xb.c 4 (by decide)).1
          have x5c : X.cell? ⟨y1.heap.size, 5, none⟩ = some (.int .i64 label) := (xb.c 5 (by decide)).1
          have x6c : X.cell? ⟨y1.heap.size, 6, none⟩ = some (.int .i64 key) := (xb.c 6 (by decide)).1
          have x7c : X.cell? ⟨y1.heap.size, 7, none⟩ = some (.int .i64 value) := (xb.c 7 (by decide)).1
          have x8c : X.cell? ⟨y1.heap.size, 8, none⟩ = some (.int .i64 version) := (xb.c 8 (by decide)).1
          have x9c : X.cell? ⟨y1.heap.size, 9, none⟩ = some (.int .i64 ask) := (xb.c 9 (by decide)).1
          have x10c : X.cell? ⟨y1.heap.size, 10, none⟩ = some (.bool yes) := (xb.c 10 (by decide)).1
          have x11c : X.cell? ⟨y1.heap.size, 11, none⟩ = some (.int .i64 code) := (xb.c 11 (by decide)).1
          have zx := xb.lt
          obtain ⟨bs, js, ix, more, hN, hDk, hbs, hok⟩ := hS.dk
          have HCl : Hid (Calls Tryd.prog 11 #[.agg #[.int .i64 S1, .slice (some ⟨g0, 0, none⟩) 2 2, .int .i64 3], .int .i64 l, .int .i64 me, .agg #[.int .i64 nx, .slice da N dc], .agg #[.int .i64 kind, .int .i64 frm, .int .i64 me, .int .i64 me, .int .i64 num, .int .i64 label, .int .i64 key, .int .i64 value, .int .i64 version, .int .i64 ask, .bool yes, .int .i64 code]] X fun e w' => ∃ (v' : CkV) (ix' : List (Nat × Nat)) (more' : List Rw), e = .returned (.tuple #[v'.turn, .int .i64 (hrErr ⟨S1, LS2, 3, l, me⟩ nx bs ⟨kind, frm, me, me, num, label, key, value, version, ask, yes, code⟩)]) ∧ Live X.heap.size w' v' ix' more' (HearAns ⟨S1, LS2, 3, l, me⟩ nx bs ⟨kind, frm, me, me, num, label, key, value, version, ask, yes, code⟩) ∧ Below X.heap.size X w') := by
            rw [hN] at hDk ⊢
            exact hear_dk S1 3 (some ⟨g0, 0, none⟩) 2 2 LS2 l me nx da dc bs ⟨kind, frm, me, me, num, label, key, value, version, ask, yes, code⟩ X (HL.out X hwX).1 hDk hbs (HL.out X hwX).2.2
          have HGd : Hid (hrErr ⟨S1, LS2, 3, l, me⟩ nx bs ⟨kind, frm, me, me, num, label, key, value, version, ask, yes, code⟩ = 0 → DOK S1 2 (HearAns ⟨S1, LS2, 3, l, me⟩ nx bs ⟨kind, frm, me, me, num, label, key, value, version, ask, yes, code⟩).next (HearAns ⟨S1, LS2, 3, l, me⟩ nx bs ⟨kind, frm, me, me, num, label, key, value, version, ask, yes, code⟩).js ∧ (HearAns ⟨S1, LS2, 3, l, me⟩ nx bs ⟨kind, frm, me, me, num, label, key, value, version, ask, yes, code⟩).next ≤ 1 + ((k + 1 : Nat) : Int)) := fun h => ⟨good_hear (C := ⟨S1, LS2, 3, l, me⟩) h, by rw [next_hear (C := ⟨S1, LS2, 3, l, me⟩) h]; have h9 := hS.lim; omega⟩
          obtain ⟨T, eT⟩ : ∃ T, T = HearAns ⟨S1, LS2, 3, l, me⟩ nx bs ⟨kind, frm, me, me, num, label, key, value, version, ask, yes, code⟩ := ⟨_, rfl⟩
          obtain ⟨E, eE⟩ : ∃ E, E = hrErr ⟨S1, LS2, 3, l, me⟩ nx bs ⟨kind, frm, me, me, num, label, key, value, version, ask, yes, code⟩ := ⟨_, rfl⟩
          rw [← eT] at HCl HGd
          rw [← eE] at HCl HGd
          have HS : Hid (DkSt S1 2 (1 + (k : Int)) (w.heap.size + 3) (w.heap.size + 2) W X nx da N dc) := hS
          clear eT eE hDk hbs hok hN hS
          go_upto_region 21 with (go_at_call 11; refine HCl.out.mono ?_; rintro e y ⟨V2, iz, mz, rfl, hLv, hby⟩; simp only [CkV.turn])
          obtain ⟨Z, eZ⟩ : ∃ Z : World, Z = y.alloc (.cells #[.int .i64 V2.next, .slice V2.ja V2.jl V2.jc, .slice V2.ma V2.ml V2.mc, .slice V2.ra V2.rl V2.rc, .slice V2.pa V2.pl V2.pc, .int .i64 V2.sure, .int .i64 V2.com] 34) := ⟨_, rfl⟩
          have bZ : Below y.heap.size y Z := by rw [eZ]; exact (Below.refl _ _).alloc (Nat.le_refl _) _
          have tb : BoxN Z y.heap.size 7 [.int .i64 V2.next, .slice V2.ja V2.jl V2.jc, .slice V2.ma V2.ml V2.mc, .slice V2.ra V2.rl V2.rc, .slice V2.pa V2.pl V2.pc, .int .i64 V2.sure, .int .i64 V2.com] := by rw [eZ]; exact boxn_new y #[.int .i64 V2.next, .slice V2.ja V2.jl V2.jc, .slice V2.ma V2.ml V2.mc, .slice V2.ra V2.rl V2.rc, .slice V2.pa V2.pl V2.pc, .int .i64 V2.sure, .int .i64 V2.com] 34 7 rfl
          rw [← eZ]
          have bXZ := nT hby bZ
          clear eZ d0 d1 c0 c1 c2 x0c x1c x2c x3c x4c x5c x6c x7c x8c x9c x10c x11c xb
          have hSZ := HS.out.below bXZ
          have hLZ := hLv.below bZ
          clear hLv HCl
          have hbase : w.heap.size + 3 ≤ X.heap.size := HS.out.le
          by_cases hE : E = 0
          · subst hE
            have hok := HGd.out rfl
            obtain ⟨da2, dc2, eD, hS2⟩ := hSZ.put (by omega) ((hLZ.base hbase).dk) hok
            have t0 : Z.cell? ⟨y.heap.size, 0, none⟩ = some (.int .i64 V2.next) := (tb.c 0 (by decide)).1
            have t1 : Z.cell? ⟨y.heap.size, 1, none⟩ = some (.slice V2.ja V2.jl V2.jc) := (tb.c 1 (by decide)).1
            have zt := tb.lt
            have d0 : Z.cell? ⟨w.heap.size + 2, 0, none⟩ = some (.int .i64 nx) := (hSZ.box.c 0 (by decide)).1
            have d1 : Z.cell? ⟨w.heap.size + 2, 1, none⟩ = some (.slice da N dc) := (hSZ.box.c 1 (by decide)).1
            have df0 := (hSZ.box.c 0 (by decide)).2
            have df1 := (hSZ.box.c 1 (by decide)).2
            have zd := hSZ.box.lt
            have eDn : Value.int .i64 V2.next = Value.int .i64 T.next ∧ Value.slice V2.ja V2.jl V2.jc = Value.slice da2 T.js.length dc2 := by
              simp at eD
              exact ⟨by rw [eD.1], by rw [eD.2.1, eD.2.2.1, eD.2.2.2]⟩
            rw [← eDn.1, ← eDn.2] at hS2
            unfold set2 at hS2
            have HI9 : Hid (∃ nx da N dc, DkSt S1 2 (1 + ((k + 1 : Nat) : Int)) (w.heap.size + 3) (w.heap.size + 2) W _ nx da N dc) := ⟨_, _, _, _, hS2⟩
            clear hSZ hLZ hI hS2 eD eDn tb hok
            go_wp2
            go_roundw
            case rel => exact ⟨k + 1, by go_num, by omega, by have := HMS.out; exact (by omega : (((k + 1 : Nat)) : Int) ≤ most), HI9⟩
            case measure => simp [intOf]; omega
          · have hE' : (E == 0) = false := by simpa using hE
            have HI9 : Hid (∃ nx da N dc, DkSt S1 2 (1 + ((k + 1 : Nat) : Int)) (w.heap.size + 3) (w.heap.size + 2) W Z nx da N dc) := ⟨nx, da, N, dc, hSZ.more (by omega)⟩
            clear hSZ hLZ hI
            go_wp2
            go_roundw
            case rel => exact ⟨k + 1, by go_num, by omega, by have := HMS.out; exact (by omega : (((k + 1 : Nat)) : Int) ≤ most), HI9⟩
            case measure => simp [intOf]; omega
      · have zc := hS.le
        have d0 : wr.cell? ⟨w.heap.size + 2, 0, none⟩ = some (.int .i64 nx) := (hS.box.c 0 (by decide)).1
        have d1 : wr.cell? ⟨w.heap.size + 2, 1, none⟩ = some (.slice da N dc) := (hS.box.c 1 (by decide)).1
        have r0 : wr.cell? ⟨w.heap.size + 1, 0, none⟩ = some (.int .i64 0) := (rbx.c 0 (by decide)).1
        have r1 : wr.cell? ⟨w.heap.size + 1, 1, none⟩ = some (.slice none 0 0) := (rbx.c 1 (by decide)).1
        have rf0 := (rbx.c 0 (by decide)).2
        have rf1 := (rbx.c 1 (by decide)).2
        have zd := hS.box.lt
        have zr := rbx.lt
        have HS : Hid (DkSt S1 2 (1 + (k : Int)) (w.heap.size + 3) (w.heap.size + 2) W wr nx da N dc) := hS
        clear hI hS hrw hlw hTw
        go_wp2
        have rbF := (rbx.set 0 (by decide) (.int .i64 nx)).set 1 (by decide) (.slice da N dc)
        have bF : Below w.heap.size w ((wr.setCell ⟨w.heap.size + 1, 0, none⟩ (.int .i64 nx)).setCell ⟨w.heap.size + 1, 1, none⟩ (.slice da N dc)) := (hww.setCell (p := ⟨w.heap.size + 1, 0, none⟩) (by show w.heap.size ≤ w.heap.size + 1; omega) _).setCell (p := ⟨w.heap.size + 1, 1, none⟩) (by show w.heap.size ≤ w.heap.size + 1; omega) _
        have hdk : ∃ D nx' bs, Ending.returned (.agg #[.int .i64 nx, .slice da N dc]) = .returned D ∧ DkIs w.heap.size ((wr.setCell ⟨w.heap.size + 1, 0, none⟩ (.int .i64 nx)).setCell ⟨w.heap.size + 1, 1, none⟩ (.slice da N dc)) D nx' bs ∧ DOK S1 2 nx' bs ∧ nx' ≤ 1 + most := by
          obtain ⟨bs, js, ix, more, h1, h2, h3, h4⟩ := HS.out.dk
          refine ⟨_, nx, bs, rfl, ⟨da, dc, js, ix, more, by rw [h1], ?_, h3⟩, h4, by have := HS.out.lim; have := HKM.out; omega⟩
          rw [← h1]
          exact ((h2.aside (r := w.heap.size + 1) (by omega) 0 _).aside (r := w.heap.size + 1) (by omega) 1 _).base (by omega)
        obtain ⟨Y, eY⟩ : ∃ Y, Y = (wr.setCell ⟨w.heap.size + 1, 0, none⟩ (.int .i64 nx)).setCell ⟨w.heap.size + 1, 1, none⟩ (.slice da N dc) := ⟨_, rfl⟩
        rw [← eY] at rbF bF hdk ⊢
        clear eY
        have k0 : Y.cell? ⟨w.heap.size + 1, 0, none⟩ = some (.int .i64 nx) := (rbF.c 0 (by decide)).1
        have k1 : Y.cell? ⟨w.heap.size + 1, 1, none⟩ = some (.slice da N dc) := (rbF.c 1 (by decide)).1
        exact bodyPost_ret (v := .agg #[.int .i64 nx, .slice da N dc]) (by simp [results, Tryd.results12, go_sem, k0, k1]) rfl ⟨hdk, bF⟩
    · have hlt' : ¬ (k : Int) < (len : Int) := by omega
      have zc := hS.le
      have d0 : wr.cell? ⟨w.heap.size + 2, 0, none⟩ = some (.int .i64 nx) := (hS.box.c 0 (by decide)).1
      have d1 : wr.cell? ⟨w.heap.size + 2, 1, none⟩ = some (.slice da N dc) := (hS.box.c 1 (by decide)).1
      have r0 : wr.cell? ⟨w.heap.size + 1, 0, none⟩ = some (.int .i64 0) := (rbx.c 0 (by decide)).1
      have r1 : wr.cell? ⟨w.heap.size + 1, 1, none⟩ = some (.slice none 0 0) := (rbx.c 1 (by decide)).1
      have rf0 := (rbx.c 0 (by decide)).2
      have rf1 := (rbx.c 1 (by decide)).2
      have zd := hS.box.lt
      have zr := rbx.lt
      have HS : Hid (DkSt S1 2 (1 + (k : Int)) (w.heap.size + 3) (w.heap.size + 2) W wr nx da N dc) := hS
      clear hI hS hrw hlw hTw
      go_wp2
      have rbF := (rbx.set 0 (by decide) (.int .i64 nx)).set 1 (by decide) (.slice da N dc)
      have bF : Below w.heap.size w ((wr.setCell ⟨w.heap.size + 1, 0, none⟩ (.int .i64 nx)).setCell ⟨w.heap.size + 1, 1, none⟩ (.slice da N dc)) := (hww.setCell (p := ⟨w.heap.size + 1, 0, none⟩) (by show w.heap.size ≤ w.heap.size + 1; omega) _).setCell (p := ⟨w.heap.size + 1, 1, none⟩) (by show w.heap.size ≤ w.heap.size + 1; omega) _
      have hdk : ∃ D nx' bs, Ending.returned (.agg #[.int .i64 nx, .slice da N dc]) = .returned D ∧ DkIs w.heap.size ((wr.setCell ⟨w.heap.size + 1, 0, none⟩ (.int .i64 nx)).setCell ⟨w.heap.size + 1, 1, none⟩ (.slice da N dc)) D nx' bs ∧ DOK S1 2 nx' bs ∧ nx' ≤ 1 + most := by
        obtain ⟨bs, js, ix, more, h1, h2, h3, h4⟩ := HS.out.dk
        refine ⟨_, nx, bs, rfl, ⟨da, dc, js, ix, more, by rw [h1], ?_, h3⟩, h4, by have := HS.out.lim; have := HKM.out; omega⟩
        rw [← h1]
        exact ((h2.aside (r := w.heap.size + 1) (by omega) 0 _).aside (r := w.heap.size + 1) (by omega) 1 _).base (by omega)
      obtain ⟨Y, eY⟩ : ∃ Y, Y = (wr.setCell ⟨w.heap.size + 1, 0, none⟩ (.int .i64 nx)).setCell ⟨w.heap.size + 1, 1, none⟩ (.slice da N dc) := ⟨_, rfl⟩
      rw [← eY] at rbF bF hdk ⊢
      clear eY
      have k0 : Y.cell? ⟨w.heap.size + 1, 0, none⟩ = some (.int .i64 nx) := (rbF.c 0 (by decide)).1
      have k1 : Y.cell? ⟨w.heap.size + 1, 1, none⟩ = some (.slice da N dc) := (rbF.c 1 (by decide)).1
      exact bodyPost_ret (v := .agg #[.int .i64 nx, .slice da N dc]) (by simp [results, Tryd.results12, go_sem, k0, k1]) rfl ⟨hdk, bF⟩
end Go.Proofs.YtdjnaahkcnklhabDoor.Co
