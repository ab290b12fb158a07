/- Texts of this claim, one behind the other. -/
import Derived.Test.YtdjnaahkcnklhabDoorM28CommitAsks
import Derived.Test.YtdjnaahkcnklhabDoorA29CommitAsks
import Derived.Test.YtdjnaahkcnklhabDoorM4CommitAsks
import Derived.Test.YtdjnaahkcnklhabDoorM5CommitAsks
import Derived.Test.YtdjnaahkcnklhabDoorM21CommitAsks
/- What a message is answered with, mostly well: reredoskeep.back. -/
namespace Go.Proofs.YtdjnaahkcnklhabDoor.Co
open Go.ChangeShapes Go.WideShapes Go.ChangeAt Go.RowKit
open Go.Proofs.YtdjnaahkcnklhabDoor.St (BoxN boxn_new own_below grown_setCell IsRow Elem flat flat_append own_isRow idxI idxI_lt)
set_option linter.unusedVariables false

theorem DeskAt.asideF {X : World} {B r : Nat} {a : Option Addr} {n c : Nat} {js : List JbV} {ix : List (Nat × Nat)} {more : List Rw} (h : DeskAt X B a n c js ix more) (hr : Far r (jobRow a n c js :: more)) (j : Nat) (v : Value) : DeskAt (X.setCell ⟨r, j, none⟩ v) B a n c js ix more := ⟨h.own.aside hr j v, h.jobs, h.len, h.fit, h.inn⟩
theorem DeskAt.farNew {X : World} {B r : Nat} {a : Option Addr} {n c : Nat} {js : List JbV} {ix : List (Nat × Nat)} {more : List Rw} (h : DeskAt X B a n c js ix more) (hr : X.heap.size ≤ r) : Far r (jobRow a n c js :: more) := fun i s e e2 => by
  have := ((h.own.own i s e).lt _ e2).2
  omega
theorem DeskAt.farOld {X : World} {B r : Nat} {a : Option Addr} {n c : Nat} {js : List JbV} {ix : List (Nat × Nat)} {more : List Rw} (h : DeskAt X B a n c js ix more) (hr : r < B) : Far r (jobRow a n c js :: more) := fun i s e e2 => by
  have := ((h.own.own i s e).lt _ e2).1
  omega
/-- The answer to a message; r the raw numbers. -/
def backM (me : Int) (m : MV) (r : St.RV) : MV :=
  if m.kind = 1 then ⟨5, m.dst, me, m.site, m.num, m.label, m.key, pk r.rd 50, pk r.ra 4, m.ask, false, 0⟩
  else if m.kind = 2 then ⟨6, m.dst, me, m.site, m.num, 0, m.key, 0, 0, m.ask, false, 0⟩
  else if m.kind = 3 then ⟨7, m.dst, me, m.site, m.num, m.label, m.key, 0, m.version, 0, decide (0 < pk r.rb 4), 0⟩
  else ⟨8, m.dst, me, m.site, m.num, 0, m.key, 0, 0, 0, false, 0⟩
def backNx (C : Cx) (nx : Int) (bs : List JbV) (m : MV) (r : St.RV) : Int := if hrErr C nx bs (backM C.me m r) = 0 then (HearAns C nx bs (backM C.me m r)).next else nx
def backJs (C : Cx) (nx : Int) (bs : List JbV) (m : MV) (r : St.RV) : List JbV := if hrErr C nx bs (backM C.me m r) = 0 then (HearAns C nx bs (backM C.me m r)).js else bs
def BackIs (B : Nat) (w w' : World) (nx : Int) (bs : List JbV) (e : Ending) : Prop := (∃ D, e = .returned D ∧ DkIs B w' D nx bs) ∧ Below w.heap.size w w'
set_option maxRecDepth 100000 in
set_option maxHeartbeats 8000000 in
theorem back_any (s p : Int) (a : Option Addr) (len cap : Nat) (ls : List (Int × Int)) (l me nx : Int) (D : Value) (bs : List JbV) (m : MV) (r : St.RV) (w : World) {B : Nat} (hB : B ≤ w.heap.size) (hl : IsLabs w a len cap ls) (hD : DkIs B w D nx bs) (hT : ∀ U, Below w.heap.size w U → Tables U) (hr : r.ok) :
    Calls Tryd.prog 10 #[.agg #[.int .i64 s, .slice a len cap, .int .i64 p], .int .i64 l, .int .i64 me, D, m.val, r.val] w fun e w' => BackIs B w w' (backNx ⟨s, ls, p, l, me⟩ nx bs m r) (backJs ⟨s, ls, p, l, me⟩ nx bs m r) e := by
  obtain ⟨da, dc, js, ix, more, rfl, hD, hbs⟩ := hD
  obtain ⟨N, eN⟩ : ∃ N, N = bs.length := ⟨_, rfl⟩
  rw [← eN] at hD ⊢
  have HN : Hid (N = bs.length) := eN
  obtain ⟨kind, frm, dst, site, num, label, key, value, version, ask, yes, code⟩ := m
  obtain ⟨rk, ra, rb, rc, rd, re⟩ := r
  obtain ⟨-, bra, brb, -, brd, -⟩ := hr
  simp only [] at bra brb brd
  simp only [MV.val, St.RV.val]
  have HD : Hid (DeskAt w B da N dc js ix more) := hD
  have hPD := fun u => picked_any rd 50 u brd (by omega) (by omega)
  have hPA := fun u => picked_any ra 4 u bra (by omega) (by omega)
  have hPB := fun u => picked_any rb 4 u brb (by omega) (by omega)
  have HHr : Hid (∀ (m : MV) U, Below w.heap.size w U → Calls Tryd.prog 11 #[.agg #[.int .i64 s, .slice a len cap, .int .i64 p], .int .i64 l, .int .i64 me, .agg #[.int .i64 nx, .slice da N dc], m.val] U fun e w' => ∃ (v' : CkV) (ix' : List (Nat × Nat)) (more' : List Rw), e = .returned (.tuple #[v'.turn, .int .i64 (hrErr ⟨s, ls, p, l, me⟩ nx bs m)]) ∧ Live U.heap.size w' v' ix' more' (HearAns ⟨s, ls, p, l, me⟩ nx bs m) ∧ Below U.heap.size U w') := fun m U hU => by
    have h1 := HD.out.below hU
    rw [HN.out] at h1 ⊢
    exact hear_dk s p a len cap ls l me nx da dc bs m U (hl.below hU) h1 hbs (fun V hV => hT V (hU.trans (hV.mono hU.size)))
  have HNx : Hid (∀ (x : MV), backM me ⟨kind, frm, dst, site, num, label, key, value, version, ask, yes, code⟩ ⟨rk, ra, rb, rc, rd, re⟩ = x → backNx ⟨s, ls, p, l, me⟩ nx bs ⟨kind, frm, dst, site, num, label, key, value, version, ask, yes, code⟩ ⟨rk, ra, rb, rc, rd, re⟩ = (if hrErr ⟨s, ls, p, l, me⟩ nx bs x = 0 then (HearAns ⟨s, ls, p, l, me⟩ nx bs x).next else nx) ∧ backJs ⟨s, ls, p, l, me⟩ nx bs ⟨kind, frm, dst, site, num, label, key, value, version, ask, yes, code⟩ ⟨rk, ra, rb, rc, rd, re⟩ = (if hrErr ⟨s, ls, p, l, me⟩ nx bs x = 0 then (HearAns ⟨s, ls, p, l, me⟩ nx bs x).js else bs)) := fun x e => by subst e; exact ⟨rfl, rfl⟩
  have HBs : Hid (js.map JbV.bare = bs) := hbs
  obtain ⟨W, hW⟩ : ∃ W : World, W = ((((w.alloc (.cells #[.int .i64 s, .slice a len cap, .int .i64 p] 25)).alloc (.cells #[.int .i64 nx, .slice da N dc] 29)).alloc (.cells #[.int .i64 kind, .int .i64 frm, .int .i64 dst, .int .i64 site, .int .i64 num, .int .i64 label, .int .i64 key, .int .i64 value, .int .i64 version, .int .i64 ask, .bool yes, .int .i64 code] 46)).alloc (.cells #[.int .i64 rk, .int .i64 ra, .int .i64 rb, .int .i64 rc, .int .i64 rd, .int .i64 re] 48)).alloc (.cells #[.int .i64 0, .slice none 0 0] 29) := ⟨_, rfl⟩
  have bW : Below w.heap.size w W := by rw [hW]; exact (((((Below.refl _ _).alloc (Nat.le_refl _) _).alloc (by simp) _).alloc (by simp; omega) _).alloc (by simp; omega) _).alloc (by simp; omega) _
  have zW : W.heap.size = w.heap.size + 5 := by rw [hW]; simp
  have c0 : W.cell? ⟨w.heap.size, 0, none⟩ = some (.int .i64 s) := by rw [hW]; go_simp
  have c1 : W.cell? ⟨w.heap.size, 1, none⟩ = some (.slice a len cap) := by rw [hW]; go_simp
  have c2 : W.cell? ⟨w.heap.size, 2, none⟩ = some (.int .i64 p) := by rw [hW]; go_simp
  have c3 : W.cell? ⟨w.heap.size + 1, 0, none⟩ = some (.int .i64 nx) := by rw [hW]; go_simp
  have c4 : W.cell? ⟨w.heap.size + 1, 1, none⟩ = some (.slice da N dc) := by rw [hW]; go_simp
  have c5 : W.cell? ⟨w.heap.size + 2, 0, none⟩ = some (.int .i64 kind) := by rw [hW]; go_simp
  have c6 : W.cell? ⟨w.heap.size + 2, 1, none⟩ = some (.int .i64 frm) := by rw [hW]; go_simp
  have c7 : W.cell? ⟨w.heap.size + 2, 2, none⟩ = some (.int .i64 dst) := by rw [hW]; go_simp
  have c8 : W.cell? ⟨w.heap.size + 2, 3, none⟩ = some (.int .i64 site) := by rw [hW]; go_simp
  have c9 : W.cell? ⟨w.heap.size + 2, 4, none⟩ = some (.int .i64 num) := by rw [hW]; go_simp
  have c10 : W.cell? ⟨w.heap.size + 2, 5, none⟩ = some (.int .i64 label) := by rw [hW]; go_simp
  have c11 : W.cell? ⟨w.heap.size + 2, 6, none⟩ = some (.int .i64 key) := by rw [hW]; go_simp
  have c12 : W.cell? ⟨w.heap.size + 2, 7, none⟩ = some (.int .i64 value) := by rw [hW]; go_simp
  have c13 : W.cell? ⟨w.heap.size + 2, 8, none⟩ = some (.int .i64 version) := by rw [hW]; go_simp
  have c14 : W.cell? ⟨w.heap.size + 2, 9, none⟩ = some (.int .i64 ask) := by rw [hW]; go_simp
  have c15 : W.cell? ⟨w.heap.size + 2, 10, none⟩ = some (.bool yes) := by rw [hW]; go_simp
  have c16 : W.cell? ⟨w.heap.size + 2, 11, none⟩ = some (.int .i64 code) := by rw [hW]; go_simp
  have c17 : W.cell? ⟨w.heap.size + 3, 0, none⟩ = some (.int .i64 rk) := by rw [hW]; go_simp
  have c18 : W.cell? ⟨w.heap.size + 3, 1, none⟩ = some (.int .i64 ra) := by rw [hW]; go_simp
  have c19 : W.cell? ⟨w.heap.size + 3, 2, none⟩ = some (.int .i64 rb) := by rw [hW]; go_simp
  have c20 : W.cell? ⟨w.heap.size + 3, 3, none⟩ = some (.int .i64 rc) := by rw [hW]; go_simp
  have c21 : W.cell? ⟨w.heap.size + 3, 4, none⟩ = some (.int .i64 rd) := by rw [hW]; go_simp
  have c22 : W.cell? ⟨w.heap.size + 3, 5, none⟩ = some (.int .i64 re) := by rw [hW]; go_simp
  have KC : Hid (∀ U, Below W.heap.size W U → U.cell? ⟨w.heap.size, 0, none⟩ = some (.int .i64 s) ∧ U.cell? ⟨w.heap.size, 1, none⟩ = some (.slice a len cap) ∧ U.cell? ⟨w.heap.size, 2, none⟩ = some (.int .i64 p) ∧ U.cell? ⟨w.heap.size + 1, 0, none⟩ = some (.int .i64 nx) ∧ U.cell? ⟨w.heap.size + 1, 1, none⟩ = some (.slice da N dc) ∧ U.cell? ⟨w.heap.size + 2, 0, none⟩ = some (.int .i64 kind) ∧ U.cell? ⟨w.heap.size + 2, 1, none⟩ = some (.int .i64 frm) ∧ U.cell? ⟨w.heap.size + 2, 2, none⟩ = some (.int .i64 dst) ∧ U.cell? ⟨w.heap.size + 2, 3, none⟩ = some (.int .i64 site) ∧ U.cell? ⟨w.heap.size + 2, 4, none⟩ = some (.int .i64 num) ∧ U.cell? ⟨w.heap.size + 2, 5, none⟩ = some (.int .i64 label) ∧ U.cell? ⟨w.heap.size + 2, 6, none⟩ = some (.int .i64 key) ∧ U.cell? ⟨w.heap.size + 2, 7, none⟩ = some (.int .i64 value) ∧ U.cell? ⟨w.heap.size + 2, 8, none⟩ = some (.int .i64 version) ∧ U.cell? ⟨w.heap.size + 2, 9, none⟩ = some (.int .i64 ask) ∧ U.cell? ⟨w.heap.size + 2, 10, none⟩ = some (.bool yes) ∧ U.cell? ⟨w.heap.size + 2, 11, none⟩ = some (.int .i64 code) ∧ U.cell? ⟨w.heap.size + 3, 0, none⟩ = some (.int .i64 rk) ∧ U.cell? ⟨w.heap.size + 3, 1, none⟩ = some (.int .i64 ra) ∧ U.cell? ⟨w.heap.size + 3, 2, none⟩ = some (.int .i64 rb) ∧ U.cell? ⟨w.heap.size + 3, 3, none⟩ = some (.int .i64 rc) ∧ U.cell? ⟨w.heap.size + 3, 4, none⟩ = some (.int .i64 rd) ∧ U.cell? ⟨w.heap.size + 3, 5, none⟩ = some (.int .i64 re)) := fun U hU => ⟨(hU.cell (p := ⟨w.heap.size, 0, none⟩) (by show w.heap.size < _; omega)).trans c0, (hU.cell (p := ⟨w.heap.size, 1, none⟩) (by show w.heap.size < _; omega)).trans c1, (hU.cell (p := ⟨w.heap.size, 2, none⟩) (by show w.heap.size < _; omega)).trans c2, (hU.cell (p := ⟨w.heap.size + 1, 0, none⟩) (by show w.heap.size + 1 < _; omega)).trans c3, (hU.cell (p := ⟨w.heap.size + 1, 1, none⟩) (by show w.heap.size + 1 < _; omega)).trans c4, (hU.cell (p := ⟨w.heap.size + 2, 0, none⟩) (by show w.heap.size + 2 < _; omega)).trans c5, (hU.cell (p := ⟨w.heap.size + 2, 1, none⟩) (by show w.heap.size + 2 < _; omega)).trans c6, (hU.cell (p := ⟨w.heap.size + 2, 2, none⟩) (by show w.heap.size + 2 < _; omega)).trans c7, (hU.cell (p := ⟨w.heap.size + 2, 3, none⟩) (by show w.heap.size + 2 < _; omega)).trans c8, (hU.cell (p := ⟨w.heap.size + 2, 4, none⟩) (by show w.heap.size + 2 < _; omega)).trans c9, (hU.cell (p := ⟨w.heap.size + 2, 5, none⟩) (by show w.heap.size + 2 < _; omega)).trans c10, (hU.cell (p := ⟨w.heap.size + 2, 6, none⟩) (by show w.heap.size + 2 < _; omega)).trans c11, (hU.cell (p := ⟨w.heap.size + 2, 7, none⟩) (by show w.heap.size + 2 < _; omega)).trans c12, (hU.cell (p := ⟨w.heap.size + 2, 8, none⟩) (by show w.heap.size + 2 < _; omega)).trans c13, (hU.cell (p := ⟨w.heap.size + 2, 9, none⟩) (by show w.heap.size + 2 < _; omega)).trans c14, (hU.cell (p := ⟨w.heap.size + 2, 10, none⟩) (by show w.heap.size + 2 < _; omega)).trans c15, (hU.cell (p := ⟨w.heap.size + 2, 11, none⟩) (by show w.heap.size + 2 < _; omega)).trans c16, (hU.cell (p := ⟨w.heap.size + 3, 0, none⟩) (by show w.heap.size + 3 < _; omega)).trans c17, (hU.cell (p := ⟨w.heap.size + 3, 1, none⟩) (by show w.heap.size + 3 < _; omega)).trans c18, (hU.cell (p := ⟨w.heap.size + 3, 2, none⟩) (by show w.heap.size + 3 < _; omega)).trans c19, (hU.cell (p := ⟨w.heap.size + 3, 3, none⟩) (by show w.heap.size + 3 < _; omega)).trans c20, (hU.cell (p := ⟨w.heap.size + 3, 4, none⟩) (by show w.heap.size + 3 < _; omega)).trans c21, (hU.cell (p := ⟨w.heap.size + 3, 5, none⟩) (by show w.heap.size + 3 < _; omega)).trans c22⟩
  have bxW : BoxN W (w.heap.size + 4) 2 [.int .i64 0, .slice none 0 0] := by
    rw [hW]
    have := boxn_new (((((w.alloc (.cells #[.int .i64 s, .slice a len cap, .int .i64 p] 25)).alloc (.cells #[.int .i64 nx, .slice da N dc] 29)).alloc (.cells #[.int .i64 kind, .int .i64 frm, .int .i64 dst, .int .i64 site, .int .i64 num, .int .i64 label, .int .i64 key, .int .i64 value, .int .i64 version, .int .i64 ask, .bool yes, .int .i64 code] 46)).alloc (.cells #[.int .i64 rk, .int .i64 ra, .int .i64 rb, .int .i64 rc, .int .i64 rd, .int .i64 re] 48))) #[.int .i64 0, .slice none 0 0] 29 2 rfl
    simpa using this
  have HBox : Hid (∀ U, Below W.heap.size W U → BoxN U (w.heap.size + 4) 2 [.int .i64 0, .slice none 0 0]) := fun U hU => bxW.below hU bxW.lt
  have HZ : Hid (∀ U, Below W.heap.size W U → Below w.heap.size w U ∧ w.heap.size + 5 ≤ U.heap.size) := fun U hU => ⟨bW.trans (hU.mono bW.size), by have := hU.size; omega⟩
  have z0 : w.heap.size < W.heap.size := by omega
  have z1 : w.heap.size + 1 < W.heap.size := by omega
  have z2 : w.heap.size + 2 < W.heap.size := by omega
  have z3 : w.heap.size + 3 < W.heap.size := by omega
  have z4 : w.heap.size + 4 < W.heap.size := by omega
  have HZW : Hid (W.heap.size = w.heap.size + 5) := zW
  clear hD hbs eN bxW zW
  by_cases h1 : kind = 1
  · subst h1
    obtain ⟨PD, eD⟩ : ∃ PD, PD = pk rd 50 := ⟨_, rfl⟩
    obtain ⟨PA, eA⟩ : ∃ PA, PA = pk ra 4 := ⟨_, rfl⟩
    have HPe : Hid (PD = pk rd 50 ∧ PA = pk ra 4) := ⟨eD, eA⟩
    rw [← eD] at hPD
    rw [← eA] at hPA
    clear eD eA
    have tok : True := trivial
    go_enter Tryd.func10, Tryd.ntmps10
    go_upto_region 1 with (fail)
    rw [← hW]
    clear hW
    go_upto_region 18 with ((go_at_call 9; first | (clear tok; refine (hPD _).mono ?_; rintro e u ⟨rfl, hu⟩; rw [hu]; clear hu) | (refine (hPA _).mono ?_; rintro e u ⟨rfl, hu⟩; rw [hu]; clear hu)))
    obtain ⟨X, hX⟩ : ∃ X : World, X = W.alloc (.cells #[.int .i64 5, .int .i64 dst, .int .i64 me, .int .i64 site, .int .i64 num, .int .i64 label, .int .i64 key, .int .i64 PD, .int .i64 PA, .int .i64 ask, .bool false, .int .i64 0] 46) := ⟨_, rfl⟩
    have bX : Below W.heap.size W X := by rw [hX]; exact (Below.refl _ _).alloc (Nat.le_refl _) _
    have zX : W.heap.size < X.heap.size := by rw [hX]; simp
    have xb : BoxN X W.heap.size 12 [.int .i64 5, .int .i64 dst, .int .i64 me, .int .i64 site, .int .i64 num, .int .i64 label, .int .i64 key, .int .i64 PD, .int .i64 PA, .int .i64 ask, .bool false, .int .i64 0] := by
      rw [hX]
      exact boxn_new W #[.int .i64 5, .int .i64 dst, .int .i64 me, .int .i64 site, .int .i64 num, .int .i64 label, .int .i64 key, .int .i64 PD, .int .i64 PA, .int .i64 ask, .bool false, .int .i64 0] 46 12 rfl
    rw [← hX]
    clear hX c0 c1 c2 c3 c4 c5 c6 c7 c8 c9 c10 c11 c12 c13 c14 c15 c16 c17 c18 c19 c20 c21 c22
    obtain ⟨d0, d1, d2, d3, d4, -, -, -, -, -, -, -, -, -, -, -, -, -, -, -, -, -, -⟩ := KC.out X bX
    have x0 : X.cell? ⟨W.heap.size, 0, none⟩ = some (.int .i64 5) := (xb.c 0 (by decide)).1
    have x1 : X.cell? ⟨W.heap.size, 1, none⟩ = some (.int .i64 dst) := (xb.c 1 (by decide)).1
    have x2 : X.cell? ⟨W.heap.size, 2, none⟩ = some (.int .i64 me) := (xb.c 2 (by decide)).1
    have x3 : X.cell? ⟨W.heap.size, 3, none⟩ = some (.int .i64 site) := (xb.c 3 (by decide)).1
    have x4 : X.cell? ⟨W.heap.size, 4, none⟩ = some (.int .i64 num) := (xb.c 4 (by decide)).1
    have x5 : X.cell? ⟨W.heap.size, 5, none⟩ = some (.int .i64 label) := (xb.c 5 (by decide)).1
    have x6 : X.cell? ⟨W.heap.size, 6, none⟩ = some (.int .i64 key) := (xb.c 6 (by decide)).1
    have x7 : X.cell? ⟨W.heap.size, 7, none⟩ = some (.int .i64 PD) := (xb.c 7 (by decide)).1
    have x8 : X.cell? ⟨W.heap.size, 8, none⟩ = some (.int .i64 PA) := (xb.c 8 (by decide)).1
    have x9 : X.cell? ⟨W.heap.size, 9, none⟩ = some (.int .i64 ask) := (xb.c 9 (by decide)).1
    have x10 : X.cell? ⟨W.heap.size, 10, none⟩ = some (.bool false) := (xb.c 10 (by decide)).1
    have x11 : X.cell? ⟨W.heap.size, 11, none⟩ = some (.int .i64 0) := (xb.c 11 (by decide)).1
    have z5 := (HZ.out X bX).2
    have HH : Hid (Calls Tryd.prog 11 #[.agg #[.int .i64 s, .slice a len cap, .int .i64 p], .int .i64 l, .int .i64 me, .agg #[.int .i64 nx, .slice da N dc], .agg #[.int .i64 5, .int .i64 dst, .int .i64 me, .int .i64 site, .int .i64 num, .int .i64 label, .int .i64 key, .int .i64 PD, .int .i64 PA, .int .i64 ask, .bool false, .int .i64 0]] X fun e w' => ∃ (v' : CkV) (ix' : List (Nat × Nat)) (more' : List Rw), e = .returned (.tuple #[v'.turn, .int .i64 (hrErr ⟨s, ls, p, l, me⟩ nx bs ⟨5, dst, me, site, num, label, key, PD, PA, ask, false, 0⟩)]) ∧ Live X.heap.size w' v' ix' more' (HearAns ⟨s, ls, p, l, me⟩ nx bs ⟨5, dst, me, site, num, label, key, PD, PA, ask, false, 0⟩) ∧ Below X.heap.size X w') := HHr.out ⟨5, dst, me, site, num, label, key, PD, PA, ask, false, 0⟩ X (HZ.out X bX).1
    have HNX := HNx.out ⟨5, dst, me, site, num, label, key, PD, PA, ask, false, 0⟩ (by unfold backM; rw [if_pos rfl, HPe.out.1, HPe.out.2])
    have HNY : Hid _ := HNX
    clear HNX HNx HHr
    obtain ⟨E, eE⟩ : ∃ E, E = hrErr ⟨s, ls, p, l, me⟩ nx bs ⟨5, dst, me, site, num, label, key, PD, PA, ask, false, 0⟩ := ⟨_, rfl⟩
    rw [← eE] at HH HNY
    clear eE
    by_cases hE : E = 0
    · subst hE
      have HNZ : Hid (backNx ⟨s, ls, p, l, me⟩ nx bs ⟨1, frm, dst, site, num, label, key, value, version, ask, yes, code⟩ ⟨rk, ra, rb, rc, rd, re⟩ = (HearAns ⟨s, ls, p, l, me⟩ nx bs ⟨5, dst, me, site, num, label, key, PD, PA, ask, false, 0⟩).next ∧ backJs ⟨s, ls, p, l, me⟩ nx bs ⟨1, frm, dst, site, num, label, key, value, version, ask, yes, code⟩ ⟨rk, ra, rb, rc, rd, re⟩ = (HearAns ⟨s, ls, p, l, me⟩ nx bs ⟨5, dst, me, site, num, label, key, PD, PA, ask, false, 0⟩).js) := by
        have h1 := HNY.out
        rw [if_pos rfl, if_pos rfl] at h1
        exact h1
      go_upto_region 19 with (go_at_call 11; refine HH.out.mono ?_; rintro e y ⟨V, iz, mz, rfl, hLv, hby⟩; simp only [CkV.turn])
      obtain ⟨Z, eZ⟩ : ∃ Z : World, Z = y.alloc (.cells #[.int .i64 V.next, .slice V.ja V.jl V.jc, .slice V.ma V.ml V.mc, .slice V.ra V.rl V.rc, .slice V.pa V.pl V.pc, .int .i64 V.sure, .int .i64 V.com] 34) := ⟨_, rfl⟩
      have bZ : Below y.heap.size y Z := by rw [eZ]; exact (Below.refl _ _).alloc (Nat.le_refl _) _
      have tb : BoxN Z y.heap.size 7 [.int .i64 V.next, .slice V.ja V.jl V.jc, .slice V.ma V.ml V.mc, .slice V.ra V.rl V.rc, .slice V.pa V.pl V.pc, .int .i64 V.sure, .int .i64 V.com] := by rw [eZ]; exact boxn_new y #[.int .i64 V.next, .slice V.ja V.jl V.jc, .slice V.ma V.ml V.mc, .slice V.ra V.rl V.rc, .slice V.pa V.pl V.pc, .int .i64 V.sure, .int .i64 V.com] 34 7 rfl
      rw [← eZ]
      have t0 : Z.cell? ⟨y.heap.size, 0, none⟩ = some (.int .i64 V.next) := (tb.c 0 (by decide)).1
      have t1 : Z.cell? ⟨y.heap.size, 1, none⟩ = some (.slice V.ja V.jl V.jc) := (tb.c 1 (by decide)).1
      have zt := tb.lt
      have bXZ := nT hby bZ
      have bWZ := nT bX bXZ
      have rbx := HBox.out Z bWZ
      have r0 : Z.cell? ⟨w.heap.size + 4, 0, none⟩ = some (.int .i64 0) := (rbx.c 0 (by decide)).1
      have r1 : Z.cell? ⟨w.heap.size + 4, 1, none⟩ = some (.slice none 0 0) := (rbx.c 1 (by decide)).1
      have rf0 := (rbx.c 0 (by decide)).2
      have rf1 := (rbx.c 1 (by decide)).2
      have zr := rbx.lt
      have HLv : Hid (Live X.heap.size Z V iz mz (HearAns ⟨s, ls, p, l, me⟩ nx bs ⟨5, dst, me, site, num, label, key, PD, PA, ask, false, 0⟩)) := hLv.below bZ
      clear eZ hLv x0 x1 x2 x3 x4 x5 x6 x7 x8 x9 x10 x11 d0 d1 d2 d3 d4 tb
      go_wp2
      have rbF := (rbx.set 0 (by decide) (.int .i64 V.next)).set 1 (by decide) (.slice V.ja V.jl V.jc)
      have bF : Below w.heap.size w ((Z.setCell ⟨w.heap.size + 4, 0, none⟩ (.int .i64 V.next)).setCell ⟨w.heap.size + 4, 1, none⟩ (.slice V.ja V.jl V.jc)) := ((HZ.out Z bWZ).1.setCell (p := ⟨w.heap.size + 4, 0, none⟩) (by show w.heap.size ≤ w.heap.size + 4; omega) _).setCell (p := ⟨w.heap.size + 4, 1, none⟩) (by show w.heap.size ≤ w.heap.size + 4; omega) _
      have hdk : DkIs B ((Z.setCell ⟨w.heap.size + 4, 0, none⟩ (.int .i64 V.next)).setCell ⟨w.heap.size + 4, 1, none⟩ (.slice V.ja V.jl V.jc)) (.agg #[.int .i64 V.next, .slice V.ja V.jl V.jc]) (backNx ⟨s, ls, p, l, me⟩ nx bs ⟨1, frm, dst, site, num, label, key, value, version, ask, yes, code⟩ ⟨rk, ra, rb, rc, rd, re⟩) (backJs ⟨s, ls, p, l, me⟩ nx bs ⟨1, frm, dst, site, num, label, key, value, version, ask, yes, code⟩ ⟨rk, ra, rb, rc, rd, re⟩) := by
        have h1 := HNZ.out
        rw [h1.1, h1.2]
        have hd := HLv.out.desk
        have hfar := hd.farOld (r := w.heap.size + 4) (by omega)
        have hd2 := ((hd.asideF hfar 0 (.int .i64 V.next)).asideF hfar 1 (.slice V.ja V.jl V.jc)).base (B := B) (by omega)
        refine ⟨V.ja, V.jc, V.js, iz, mz, by rw [HLv.out.nums.1, HLv.out.js.2], ?_, HLv.out.js.1⟩
        rw [← HLv.out.js.2]
        exact hd2
      obtain ⟨Y, eY⟩ : ∃ Y, Y = (Z.setCell ⟨w.heap.size + 4, 0, none⟩ (.int .i64 V.next)).setCell ⟨w.heap.size + 4, 1, none⟩ (.slice V.ja V.jl V.jc) := ⟨_, rfl⟩
      rw [← eY] at rbF bF hdk ⊢
      clear eY
      have k0 : Y.cell? ⟨w.heap.size + 4, 0, none⟩ = some (.int .i64 V.next) := (rbF.c 0 (by decide)).1
      have k1 : Y.cell? ⟨w.heap.size + 4, 1, none⟩ = some (.slice V.ja V.jl V.jc) := (rbF.c 1 (by decide)).1
      exact bodyPost_ret (v := .agg #[.int .i64 V.next, .slice V.ja V.jl V.jc]) (by simp [results, Tryd.results10, go_sem, k0, k1]) rfl ⟨⟨_, rfl, hdk⟩, bF⟩
    · have hE' : (E == 0) = false := by simpa using hE
      have HNZ : Hid (backNx ⟨s, ls, p, l, me⟩ nx bs ⟨1, frm, dst, site, num, label, key, value, version, ask, yes, code⟩ ⟨rk, ra, rb, rc, rd, re⟩ = nx ∧ backJs ⟨s, ls, p, l, me⟩ nx bs ⟨1, frm, dst, site, num, label, key, value, version, ask, yes, code⟩ ⟨rk, ra, rb, rc, rd, re⟩ = bs) := by
        have h1 := HNY.out
        rw [if_neg hE, if_neg hE] at h1
        exact h1
      go_upto_region 19 with (go_at_call 11; refine HH.out.mono ?_; rintro e y ⟨V, iz, mz, rfl, hLv, hby⟩; simp only [CkV.turn])
      obtain ⟨Z, eZ⟩ : ∃ Z : World, Z = y.alloc (.cells #[.int .i64 V.next, .slice V.ja V.jl V.jc, .slice V.ma V.ml V.mc, .slice V.ra V.rl V.rc, .slice V.pa V.pl V.pc, .int .i64 V.sure, .int .i64 V.com] 34) := ⟨_, rfl⟩
      have bZ : Below y.heap.size y Z := by rw [eZ]; exact (Below.refl _ _).alloc (Nat.le_refl _) _
      rw [← eZ]
      have bXZ := nT hby bZ
      have bWZ := nT bX bXZ
      have rbx := HBox.out Z bWZ
      have r0 : Z.cell? ⟨w.heap.size + 4, 0, none⟩ = some (.int .i64 0) := (rbx.c 0 (by decide)).1
      have r1 : Z.cell? ⟨w.heap.size + 4, 1, none⟩ = some (.slice none 0 0) := (rbx.c 1 (by decide)).1
      have rf0 := (rbx.c 0 (by decide)).2
      have rf1 := (rbx.c 1 (by decide)).2
      have zr := rbx.lt
      clear eZ hLv x0 x1 x2 x3 x4 x5 x6 x7 x8 x9 x10 x11 d0 d1 d2 d3 d4
      obtain ⟨-, -, -, d3, d4, -, -, -, -, -, -, -, -, -, -, -, -, -, -, -, -, -, -⟩ := KC.out Z bWZ
      have z5Z := (HZ.out Z bWZ).2
      go_wp2
      have rbF := (rbx.set 0 (by decide) (.int .i64 nx)).set 1 (by decide) (.slice da N dc)
      have bF : Below w.heap.size w ((Z.setCell ⟨w.heap.size + 4, 0, none⟩ (.int .i64 nx)).setCell ⟨w.heap.size + 4, 1, none⟩ (.slice da N dc)) := ((HZ.out Z bWZ).1.setCell (p := ⟨w.heap.size + 4, 0, none⟩) (by show w.heap.size ≤ w.heap.size + 4; omega) _).setCell (p := ⟨w.heap.size + 4, 1, none⟩) (by show w.heap.size ≤ w.heap.size + 4; omega) _
      have hdk : DkIs B ((Z.setCell ⟨w.heap.size + 4, 0, none⟩ (.int .i64 nx)).setCell ⟨w.heap.size + 4, 1, none⟩ (.slice da N dc)) (.agg #[.int .i64 nx, .slice da N dc]) (backNx ⟨s, ls, p, l, me⟩ nx bs ⟨1, frm, dst, site, num, label, key, value, version, ask, yes, code⟩ ⟨rk, ra, rb, rc, rd, re⟩) (backJs ⟨s, ls, p, l, me⟩ nx bs ⟨1, frm, dst, site, num, label, key, value, version, ask, yes, code⟩ ⟨rk, ra, rb, rc, rd, re⟩) := by
        have h1 := HNZ.out
        rw [h1.1, h1.2]
        have hfar := HD.out.farNew (r := w.heap.size + 4) (by omega)
        have hd2 := ((HD.out.below (HZ.out Z bWZ).1).asideF hfar 0 (.int .i64 nx)).asideF hfar 1 (.slice da N dc)
        refine ⟨da, dc, js, ix, more, by rw [HN.out], ?_, HBs.out⟩
        rw [HN.out] at hd2
        rw [HN.out]
        exact hd2
      obtain ⟨Y, eY⟩ : ∃ Y, Y = (Z.setCell ⟨w.heap.size + 4, 0, none⟩ (.int .i64 nx)).setCell ⟨w.heap.size + 4, 1, none⟩ (.slice da N dc) := ⟨_, rfl⟩
      rw [← eY] at rbF bF hdk ⊢
      clear eY
      have k0 : Y.cell? ⟨w.heap.size + 4, 0, none⟩ = some (.int .i64 nx) := (rbF.c 0 (by decide)).1
      have k1 : Y.cell? ⟨w.heap.size + 4, 1, none⟩ = some (.slice da N dc) := (rbF.c 1 (by decide)).1
      exact bodyPost_ret (v := .agg #[.int .i64 nx, .slice da N dc]) (by simp [results, Tryd.results10, go_sem, k0, k1]) rfl ⟨⟨_, rfl, hdk⟩, bF⟩
  · have h1' : (kind == 1) = false := by simpa using h1
    by_cases h2 : kind = 2
    · subst h2
      go_enter Tryd.func10, Tryd.ntmps10
      go_upto_region 1 with (fail)
      rw [← hW]
      clear hW
      go_upto_region 18 with (fail)
      obtain ⟨X, hX⟩ : ∃ X : World, X = W.alloc (.cells #[.int .i64 6, .int .i64 dst, .int .i64 me, .int .i64 site, .int .i64 num, .int .i64 0, .int .i64 key, .int .i64 0, .int .i64 0, .int .i64 ask, .bool false, .int .i64 0] 46) := ⟨_, rfl⟩
      have bX : Below W.heap.size W X := by rw [hX]; exact (Below.refl _ _).alloc (Nat.le_refl _) _
      have zX : W.heap.size < X.heap.size := by rw [hX]; simp
      have xb : BoxN X W.heap.size 12 [.int .i64 6, .int .i64 dst, .int .i64 me, .int .i64 site, .int .i64 num, .int .i64 0, .int .i64 key, .int .i64 0, .int .i64 0, .int .i64 ask, .bool false, .int .i64 0] := by
        rw [hX]
        exact boxn_new W #[.int .i64 6, .int .i64 dst, .int .i64 me, .int .i64 site, .int .i64 num, .int .i64 0, .int .i64 key, .int .i64 0, .int .i64 0, .int .i64 ask, .bool false, .int .i64 0] 46 12 rfl
      rw [← hX]
      clear hX c0 c1 c2 c3 c4 c5 c6 c7 c8 c9 c10 c11 c12 c13 c14 c15 c16 c17 c18 c19 c20 c21 c22
      obtain ⟨d0, d1, d2, d3, d4, -, -, -, -, -, -, -, -, -, -, -, -, -, -, -, -, -, -⟩ := KC.out X bX
      have x0 : X.cell? ⟨W.heap.size, 0, none⟩ = some (.int .i64 6) := (xb.c 0 (by decide)).1
      have x1 : X.cell? ⟨W.heap.size, 1, none⟩ = some (.int .i64 dst) := (xb.c 1 (by decide)).1
      have x2 : X.cell? ⟨W.heap.size, 2, none⟩ = some (.int .i64 me) := (xb.c 2 (by decide)).1
      have x3 : X.cell? ⟨W.heap.size, 3, none⟩ = some (.int .i64 site) := (xb.c 3 (by decide)).1
      have x4 : X.cell? ⟨W.heap.size, 4, none⟩ = some (.int .i64 num) := (xb.c 4 (by decide)).1
      have x5 : X.cell? ⟨W.heap.size, 5, none⟩ = some (.int .i64 0) := (xb.c 5 (by decide)).1
      have x6 : X.cell? ⟨W.heap.size, 6, none⟩ = some (.int .i64 key) := (xb.c 6 (by decide)).1
      have x7 : X.cell? ⟨W.heap.size, 7, none⟩ = some (.int .i64 0) := (xb.c 7 (by decide)).1
      have x8 : X.cell? ⟨W.heap.size, 8, none⟩ = some (.int .i64 0) := (xb.c 8 (by decide)).1
      have x9 : X.cell? ⟨W.heap.size, 9, none⟩ = some (.int .i64 ask) := (xb.c 9 (by decide)).1
      have x10 : X.cell? ⟨W.heap.size, 10, none⟩ = some (.bool false) := (xb.c 10 (by decide)).1
      have x11 : X.cell? ⟨W.heap.size, 11, none⟩ = some (.int .i64 0) := (xb.c 11 (by decide)).1
      have z5 := (HZ.out X bX).2
      have HH : Hid (Calls Tryd.prog 11 #[.agg #[.int .i64 s, .slice a len cap, .int .i64 p], .int .i64 l, .int .i64 me, .agg #[.int .i64 nx, .slice da N dc], .agg #[.int .i64 6, .int .i64 dst, .int .i64 me, .int .i64 site, .int .i64 num, .int .i64 0, .int .i64 key, .int .i64 0, .int .i64 0, .int .i64 ask, .bool false, .int .i64 0]] X fun e w' => ∃ (v' : CkV) (ix' : List (Nat × Nat)) (more' : List Rw), e = .returned (.tuple #[v'.turn, .int .i64 (hrErr ⟨s, ls, p, l, me⟩ nx bs ⟨6, dst, me, site, num, 0, key, 0, 0, ask, false, 0⟩)]) ∧ Live X.heap.size w' v' ix' more' (HearAns ⟨s, ls, p, l, me⟩ nx bs ⟨6, dst, me, site, num, 0, key, 0, 0, ask, false, 0⟩) ∧ Below X.heap.size X w') := HHr.out ⟨6, dst, me, site, num, 0, key, 0, 0, ask, false, 0⟩ X (HZ.out X bX).1
      have HNX := HNx.out ⟨6, dst, me, site, num, 0, key, 0, 0, ask, false, 0⟩ (by unfold backM; rw [if_neg (by simp), if_pos rfl])
      have HNY : Hid _ := HNX
      clear HNX HNx HHr
      obtain ⟨E, eE⟩ : ∃ E, E = hrErr ⟨s, ls, p, l, me⟩ nx bs ⟨6, dst, me, site, num, 0, key, 0, 0, ask, false, 0⟩ := ⟨_, rfl⟩
      rw [← eE] at HH HNY
      clear eE
      by_cases hE : E = 0
      · subst hE
        have HNZ : Hid (backNx ⟨s, ls, p, l, me⟩ nx bs ⟨2, frm, dst, site, num, label, key, value, version, ask, yes, code⟩ ⟨rk, ra, rb, rc, rd, re⟩ = (HearAns ⟨s, ls, p, l, me⟩ nx bs ⟨6, dst, me, site, num, 0, key, 0, 0, ask, false, 0⟩).next ∧ backJs ⟨s, ls, p, l, me⟩ nx bs ⟨2, frm, dst, site, num, label, key, value, version, ask, yes, code⟩ ⟨rk, ra, rb, rc, rd, re⟩ = (HearAns ⟨s, ls, p, l, me⟩ nx bs ⟨6, dst, me, site, num, 0, key, 0, 0, ask, false, 0⟩).js) := by
          have h1 := HNY.out
          rw [if_pos rfl, if_pos rfl] at h1
          exact h1
        go_upto_region 19 with (go_at_call 11; refine HH.out.mono ?_; rintro e y ⟨V, iz, mz, rfl, hLv, hby⟩; simp only [CkV.turn])
        obtain ⟨Z, eZ⟩ : ∃ Z : World, Z = y.alloc (.cells #[.int .i64 V.next, .slice V.ja V.jl V.jc, .slice V.ma V.ml V.mc, .slice V.ra V.rl V.rc, .slice V.pa V.pl V.pc, .int .i64 V.sure, .int .i64 V.com] 34) := ⟨_, rfl⟩
        have bZ : Below y.heap.size y Z := by rw [eZ]; exact (Below.refl _ _).alloc (Nat.le_refl _) _
        have tb : BoxN Z y.heap.size 7 [.int .i64 V.next, .slice V.ja V.jl V.jc, .slice V.ma V.ml V.mc, .slice V.ra V.rl V.rc, .slice V.pa V.pl V.pc, .int .i64 V.sure, .int .i64 V.com] := by rw [eZ]; exact boxn_new y #[.int .i64 V.next, .slice V.ja V.jl V.jc, .slice V.ma V.ml V.mc, .slice V.ra V.rl V.rc, .slice V.pa V.pl V.pc, .int .i64 V.sure, .int .i64 V.com] 34 7 rfl
        rw [← eZ]
        have t0 : Z.cell? ⟨y.heap.size, 0, none⟩ = some (.int .i64 V.next) := (tb.c 0 (by decide)).1
        have t1 : Z.cell? ⟨y.heap.size, 1, none⟩ = some (.slice V.ja V.jl V.jc) := (tb.c 1 (by decide)).1
        have zt := tb.lt
        have bXZ := nT hby bZ
        have bWZ := nT bX bXZ
        have rbx := HBox.out Z bWZ
        have r0 : Z.cell? ⟨w.heap.size + 4, 0, none⟩ = some (.int .i64 0) := (rbx.c 0 (by decide)).1
        have r1 : Z.cell? ⟨w.heap.size + 4, 1, none⟩ = some (.slice none 0 0) := (rbx.c 1 (by decide)).1
        have rf0 := (rbx.c 0 (by decide)).2
        have rf1 := (rbx.c 1 (by decide)).2
        have zr := rbx.lt
        have HLv : Hid (Live X.heap.size Z V iz mz (HearAns ⟨s, ls, p, l, me⟩ nx bs ⟨6, dst, me, site, num, 0, key, 0, 0, ask, false, 0⟩)) := hLv.below bZ
        clear eZ hLv x0 x1 x2 x3 x4 x5 x6 x7 x8 x9 x10 x11 d0 d1 d2 d3 d4 tb
        go_wp2
        have rbF := (rbx.set 0 (by decide) (.int .i64 V.next)).set 1 (by decide) (.slice V.ja V.jl V.jc)
        have bF : Below w.heap.size w ((Z.setCell ⟨w.heap.size + 4, 0, none⟩ (.int .i64 V.next)).setCell ⟨w.heap.size + 4, 1, none⟩ (.slice V.ja V.jl V.jc)) := ((HZ.out Z bWZ).1.setCell (p := ⟨w.heap.size + 4, 0, none⟩) (by show w.heap.size ≤ w.heap.size + 4; omega) _).setCell (p := ⟨w.heap.size + 4, 1, none⟩) (by show w.heap.size ≤ w.heap.size + 4; omega) _
        have hdk : DkIs B ((Z.setCell ⟨w.heap.size + 4, 0, none⟩ (.int .i64 V.next)).setCell ⟨w.heap.size + 4, 1, none⟩ (.slice V.ja V.jl V.jc)) (.agg #[.int .i64 V.next, .slice V.ja V.jl V.jc]) (backNx ⟨s, ls, p, l, me⟩ nx bs ⟨2, frm, dst, site, num, label, key, value, version, ask, yes, code⟩ ⟨rk, ra, rb, rc, rd, re⟩) (backJs ⟨s, ls, p, l, me⟩ nx bs ⟨2, frm, dst, site, num, label, key, value, version, ask, yes, code⟩ ⟨rk, ra, rb, rc, rd, re⟩) := by
          have h1 := HNZ.out
          rw [h1.1, h1.2]
          have hd := HLv.out.desk
          have hfar := hd.farOld (r := w.heap.size + 4) (by omega)
          have hd2 := ((hd.asideF hfar 0 (.int .i64 V.next)).asideF hfar 1 (.slice V.ja V.jl V.jc)).base (B := B) (by omega)
          refine ⟨V.ja, V.jc, V.js, iz, mz, by rw [HLv.out.nums.1, HLv.out.js.2], ?_, HLv.out.js.1⟩
          rw [← HLv.out.js.2]
          exact hd2
        obtain ⟨Y, eY⟩ : ∃ Y, Y = (Z.setCell ⟨w.heap.size + 4, 0, none⟩ (.int .i64 V.next)).setCell ⟨w.heap.size + 4, 1, none⟩ (.slice V.ja V.jl V.jc) := ⟨_, rfl⟩
        rw [← eY] at rbF bF hdk ⊢
        clear eY
        have k0 : Y.cell? ⟨w.heap.size + 4, 0, none⟩ = some (.int .i64 V.next) := (rbF.c 0 (by decide)).1
        have k1 : Y.cell? ⟨w.heap.size + 4, 1, none⟩ = some (.slice V.ja V.jl V.jc) := (rbF.c 1 (by decide)).1
        exact bodyPost_ret (v := .agg #[.int .i64 V.next, .slice V.ja V.jl V.jc]) (by simp [results, Tryd.results10, go_sem, k0, k1]) rfl ⟨⟨_, rfl, hdk⟩, bF⟩
      · have hE' : (E == 0) = false := by simpa using hE
        have HNZ : Hid (backNx ⟨s, ls, p, l, me⟩ nx bs ⟨2, frm, dst, site, num, label, key, value, version, ask, yes, code⟩ ⟨rk, ra, rb, rc, rd, re⟩ = nx ∧ backJs ⟨s, ls, p, l, me⟩ nx bs ⟨2, frm, dst, site, num, label, key, value, version, ask, yes, code⟩ ⟨rk, ra, rb, rc, rd, re⟩ = bs) := by
          have h1 := HNY.out
          rw [if_neg hE, if_neg hE] at h1
          exact h1
        go_upto_region 19 with (go_at_call 11; refine HH.out.mono ?_; rintro e y ⟨V, iz, mz, rfl, hLv, hby⟩; simp only [CkV.turn])
        obtain ⟨Z, eZ⟩ : ∃ Z : World, Z = y.alloc (.cells #[.int .i64 V.next, .slice V.ja V.jl V.jc, .slice V.ma V.ml V.mc, .slice V.ra V.rl V.rc, .slice V.pa V.pl V.pc, .int .i64 V.sure, .int .i64 V.com] 34) := ⟨_, rfl⟩
        have bZ : Below y.heap.size y Z := by rw [eZ]; exact (Below.refl _ _).alloc (Nat.le_refl _) _
        rw [← eZ]
        have bXZ := nT hby bZ
        have bWZ := nT bX bXZ
        have rbx := HBox.out Z bWZ
        have r0 : Z.cell? ⟨w.heap.size + 4, 0, none⟩ = some (.int .i64 0) := (rbx.c 0 (by decide)).1
        have r1 : Z.cell? ⟨w.heap.size + 4, 1, none⟩ = some (.slice none 0 0) := (rbx.c 1 (by decide)).1
        have rf0 := (rbx.c 0 (by decide)).2
        have rf1 := (rbx.c 1 (by decide)).2
        have zr := rbx.lt
        clear eZ hLv x0 x1 x2 x3 x4 x5 x6 x7 x8 x9 x10 x11 d0 d1 d2 d3 d4
        obtain ⟨-, -, -, d3, d4, -, -, -, -, -, -, -, -, -, -, -, -, -, -, -, -, -, -⟩ := KC.out Z bWZ
        have z5Z := (HZ.out Z bWZ).2
        go_wp2
        have rbF := (rbx.set 0 (by decide) (.int .i64 nx)).set 1 (by decide) (.slice da N dc)
        have bF : Below w.heap.size w ((Z.setCell ⟨w.heap.size + 4, 0, none⟩ (.int .i64 nx)).setCell ⟨w.heap.size + 4, 1, none⟩ (.slice da N dc)) := ((HZ.out Z bWZ).1.setCell (p := ⟨w.heap.size + 4, 0, none⟩) (by show w.heap.size ≤ w.heap.size + 4; omega) _).setCell (p := ⟨w.heap.size + 4, 1, none⟩) (by show w.heap.size ≤ w.heap.size + 4; omega) _
        have hdk : DkIs B ((Z.setCell ⟨w.heap.size + 4, 0, none⟩ (.int .i64 nx)).setCell ⟨w.heap.size + 4, 1, none⟩ (.slice da N dc)) (.agg #[.int .i64 nx, .slice da N dc]) (backNx ⟨s, ls, p, l, me⟩ nx bs ⟨2, frm, dst, site, num, label, key, value, version, ask, yes, code⟩ ⟨rk, ra, rb, rc, rd, re⟩) (backJs ⟨s, ls, p, l, me⟩ nx bs ⟨2, frm, dst, site, num, label, key, value, version, ask, yes, code⟩ ⟨rk, ra, rb, rc, rd, re⟩) := by
          have h1 := HNZ.out
          rw [h1.1, h1.2]
          have hfar := HD.out.farNew (r := w.heap.size + 4) (by omega)
          have hd2 := ((HD.out.below (HZ.out Z bWZ).1).asideF hfar 0 (.int .i64 nx)).asideF hfar 1 (.slice da N dc)
          refine ⟨da, dc, js, ix, more, by rw [HN.out], ?_, HBs.out⟩
          rw [HN.out] at hd2
          rw [HN.out]
          exact hd2
        obtain ⟨Y, eY⟩ : ∃ Y, Y = (Z.setCell ⟨w.heap.size + 4, 0, none⟩ (.int .i64 nx)).setCell ⟨w.heap.size + 4, 1, none⟩ (.slice da N dc) := ⟨_, rfl⟩
        rw [← eY] at rbF bF hdk ⊢
        clear eY
        have k0 : Y.cell? ⟨w.heap.size + 4, 0, none⟩ = some (.int .i64 nx) := (rbF.c 0 (by decide)).1
        have k1 : Y.cell? ⟨w.heap.size + 4, 1, none⟩ = some (.slice da N dc) := (rbF.c 1 (by decide)).1
        exact bodyPost_ret (v := .agg #[.int .i64 nx, .slice da N dc]) (by simp [results, Tryd.results10, go_sem, k0, k1]) rfl ⟨⟨_, rfl, hdk⟩, bF⟩
    · have h2' : (kind == 2) = false := by simpa using h2
      by_cases h3 : kind = 3
      · subst h3
        obtain ⟨PQ, eB⟩ : ∃ PQ, PQ = pk rb 4 := ⟨_, rfl⟩
        obtain ⟨PB, ePB⟩ : ∃ PB : Bool, PB = decide (0 < PQ) := ⟨_, rfl⟩
        have HPe : Hid (PB = decide (0 < pk rb 4)) := by rw [← eB]; exact ePB
        rw [← eB] at hPB
        have hPBs := ePB.symm
        clear eB ePB
        go_enter Tryd.func10, Tryd.ntmps10
        go_upto_region 1 with (fail)
        rw [← hW]
        clear hW
        go_upto_region 18 with (go_at_call 9; refine (hPB _).mono ?_; rintro e u ⟨rfl, hu⟩; rw [hu]; clear hu)
        obtain ⟨X, hX⟩ : ∃ X : World, X = W.alloc (.cells #[.int .i64 7, .int .i64 dst, .int .i64 me, .int .i64 site, .int .i64 num, .int .i64 label, .int .i64 key, .int .i64 0, .int .i64 version, .int .i64 0, .bool PB, .int .i64 0] 46) := ⟨_, rfl⟩
        have bX : Below W.heap.size W X := by rw [hX]; exact (Below.refl _ _).alloc (Nat.le_refl _) _
        have zX : W.heap.size < X.heap.size := by rw [hX]; simp
        have xb : BoxN X W.heap.size 12 [.int .i64 7, .int .i64 dst, .int .i64 me, .int .i64 site, .int .i64 num, .int .i64 label, .int .i64 key, .int .i64 0, .int .i64 version, .int .i64 0, .bool PB, .int .i64 0] := by
          rw [hX]
          exact boxn_new W #[.int .i64 7, .int .i64 dst, .int .i64 me, .int .i64 site, .int .i64 num, .int .i64 label, .int .i64 key, .int .i64 0, .int .i64 version, .int .i64 0, .bool PB, .int .i64 0] 46 12 rfl
        rw [← hX]
        clear hX c0 c1 c2 c3 c4 c5 c6 c7 c8 c9 c10 c11 c12 c13 c14 c15 c16 c17 c18 c19 c20 c21 c22
        obtain ⟨d0, d1, d2, d3, d4, -, -, -, -, -, -, -, -, -, -, -, -, -, -, -, -, -, -⟩ := KC.out X bX
        have x0 : X.cell? ⟨W.heap.size, 0, none⟩ = some (.int .i64 7) := (xb.c 0 (by decide)).1
        have x1 : X.cell? ⟨W.heap.size, 1, none⟩ = some (.int .i64 dst) := (xb.c 1 (by decide)).1
        have x2 : X.cell? ⟨W.heap.size, 2, none⟩ = some (.int .i64 me) := (xb.c 2 (by decide)).1
        have x3 : X.cell? ⟨W.heap.size, 3, none⟩ = some (.int .i64 site) := (xb.c 3 (by decide)).1
        have x4 : X.cell? ⟨W.heap.size, 4, none⟩ = some (.int .i64 num) := (xb.c 4 (by decide)).1
        have x5 : X.cell? ⟨W.heap.size, 5, none⟩ = some (.int .i64 label) := (xb.c 5 (by decide)).1
        have x6 : X.cell? ⟨W.heap.size, 6, none⟩ = some (.int .i64 key) := (xb.c 6 (by decide)).1
        have x7 : X.cell? ⟨W.heap.size, 7, none⟩ = some (.int .i64 0) := (xb.c 7 (by decide)).1
        have x8 : X.cell? ⟨W.heap.size, 8, none⟩ = some (.int .i64 version) := (xb.c 8 (by decide)).1
        have x9 : X.cell? ⟨W.heap.size, 9, none⟩ = some (.int .i64 0) := (xb.c 9 (by decide)).1
        have x10 : X.cell? ⟨W.heap.size, 10, none⟩ = some (.bool PB) := (xb.c 10 (by decide)).1
        have x11 : X.cell? ⟨W.heap.size, 11, none⟩ = some (.int .i64 0) := (xb.c 11 (by decide)).1
        have z5 := (HZ.out X bX).2
        have HH : Hid (Calls Tryd.prog 11 #[.agg #[.int .i64 s, .slice a len cap, .int .i64 p], .int .i64 l, .int .i64 me, .agg #[.int .i64 nx, .slice da N dc], .agg #[.int .i64 7, .int .i64 dst, .int .i64 me, .int .i64 site, .int .i64 num, .int .i64 label, .int .i64 key, .int .i64 0, .int .i64 version, .int .i64 0, .bool PB, .int .i64 0]] X fun e w' => ∃ (v' : CkV) (ix' : List (Nat × Nat)) (more' : List Rw), e = .returned (.tuple #[v'.turn, .int .i64 (hrErr ⟨s, ls, p, l, me⟩ nx bs ⟨7, dst, me, site, num, label, key, 0, version, 0, PB, 0⟩)]) ∧ Live X.heap.size w' v' ix' more' (HearAns ⟨s, ls, p, l, me⟩ nx bs ⟨7, dst, me, site, num, label, key, 0, version, 0, PB, 0⟩) ∧ Below X.heap.size X w') := HHr.out ⟨7, dst, me, site, num, label, key, 0, version, 0, PB, 0⟩ X (HZ.out X bX).1
        have HNX := HNx.out ⟨7, dst, me, site, num, label, key, 0, version, 0, PB, 0⟩ (by unfold backM; rw [if_neg (by simp), if_neg (by simp), if_pos rfl, HPe.out])
        have HNY : Hid _ := HNX
        clear HNX HNx HHr
        obtain ⟨E, eE⟩ : ∃ E, E = hrErr ⟨s, ls, p, l, me⟩ nx bs ⟨7, dst, me, site, num, label, key, 0, version, 0, PB, 0⟩ := ⟨_, rfl⟩
        rw [← eE] at HH HNY
        clear eE
        by_cases hE : E = 0
        · subst hE
          have HNZ : Hid (backNx ⟨s, ls, p, l, me⟩ nx bs ⟨3, frm, dst, site, num, label, key, value, version, ask, yes, code⟩ ⟨rk, ra, rb, rc, rd, re⟩ = (HearAns ⟨s, ls, p, l, me⟩ nx bs ⟨7, dst, me, site, num, label, key, 0, version, 0, PB, 0⟩).next ∧ backJs ⟨s, ls, p, l, me⟩ nx bs ⟨3, frm, dst, site, num, label, key, value, version, ask, yes, code⟩ ⟨rk, ra, rb, rc, rd, re⟩ = (HearAns ⟨s, ls, p, l, me⟩ nx bs ⟨7, dst, me, site, num, label, key, 0, version, 0, PB, 0⟩).js) := by
            have h1 := HNY.out
            rw [if_pos rfl, if_pos rfl] at h1
            exact h1
          go_upto_region 19 with (go_at_call 11; refine HH.out.mono ?_; rintro e y ⟨V, iz, mz, rfl, hLv, hby⟩; simp only [CkV.turn])
          obtain ⟨Z, eZ⟩ : ∃ Z : World, Z = y.alloc (.cells #[.int .i64 V.next, .slice V.ja V.jl V.jc, .slice V.ma V.ml V.mc, .slice V.ra V.rl V.rc, .slice V.pa V.pl V.pc, .int .i64 V.sure, .int .i64 V.com] 34) := ⟨_, rfl⟩
          have bZ : Below y.heap.size y Z := by rw [eZ]; exact (Below.refl _ _).alloc (Nat.le_refl _) _
          have tb : BoxN Z y.heap.size 7 [.int .i64 V.next, .slice V.ja V.jl V.jc, .slice V.ma V.ml V.mc, .slice V.ra V.rl V.rc, .slice V.pa V.pl V.pc, .int .i64 V.sure, .int .i64 V.com] := by rw [eZ]; exact boxn_new y #[.int .i64 V.next, .slice V.ja V.jl V.jc, .slice V.ma V.ml V.mc, .slice V.ra V.rl V.rc, .slice V.pa V.pl V.pc, .int .i64 V.sure, .int .i64 V.com] 34 7 rfl
          rw [← eZ]
          have t0 : Z.cell? ⟨y.heap.size, 0, none⟩ = some (.int .i64 V.next) := (tb.c 0 (by decide)).1
          have t1 : Z.cell? ⟨y.heap.size, 1, none⟩ = some (.slice V.ja V.jl V.jc) := (tb.c 1 (by decide)).1
          have zt := tb.lt
          have bXZ := nT hby bZ
          have bWZ := nT bX bXZ
          have rbx := HBox.out Z bWZ
          have r0 : Z.cell? ⟨w.heap.size + 4, 0, none⟩ = some (.int .i64 0) := (rbx.c 0 (by decide)).1
          have r1 : Z.cell? ⟨w.heap.size + 4, 1, none⟩ = some (.slice none 0 0) := (rbx.c 1 (by decide)).1
          have rf0 := (rbx.c 0 (by decide)).2
          have rf1 := (rbx.c 1 (by decide)).2
          have zr := rbx.lt
          have HLv : Hid (Live X.heap.size Z V iz mz (HearAns ⟨s, ls, p, l, me⟩ nx bs ⟨7, dst, me, site, num, label, key, 0, version, 0, PB, 0⟩)) := hLv.below bZ
          clear eZ hLv x0 x1 x2 x3 x4 x5 x6 x7 x8 x9 x10 x11 d0 d1 d2 d3 d4 tb
          go_wp2
          have rbF := (rbx.set 0 (by decide) (.int .i64 V.next)).set 1 (by decide) (.slice V.ja V.jl V.jc)
          have bF : Below w.heap.size w ((Z.setCell ⟨w.heap.size + 4, 0, none⟩ (.int .i64 V.next)).setCell ⟨w.heap.size + 4, 1, none⟩ (.slice V.ja V.jl V.jc)) := ((HZ.out Z bWZ).1.setCell (p := ⟨w.heap.size + 4, 0, none⟩) (by show w.heap.size ≤ w.heap.size + 4; omega) _).setCell (p := ⟨w.heap.size + 4, 1, none⟩) (by show w.heap.size ≤ w.heap.size + 4; omega) _
          have hdk : DkIs B ((Z.setCell ⟨w.heap.size + 4, 0, none⟩ (.int .i64 V.next)).setCell ⟨w.heap.size + 4, 1, none⟩ (.slice V.ja V.jl V.jc)) (.agg #[.int .i64 V.next, .slice V.ja V.jl V.jc]) (backNx ⟨s, ls, p, l, me⟩ nx bs ⟨3, frm, dst, site, num, label, key, value, version, ask, yes, code⟩ ⟨rk, ra, rb, rc, rd, re⟩) (backJs ⟨s, ls, p, l, me⟩ nx bs ⟨3, frm, dst, site, num, label, key, value, version, ask, yes, code⟩ ⟨rk, ra, rb, rc, rd, re⟩) := by
            have h1 := HNZ.out
            rw [h1.1, h1.2]
            have hd := HLv.out.desk
            have hfar := hd.farOld (r := w.heap.size + 4) (by omega)
            have hd2 := ((hd.asideF hfar 0 (.int .i64 V.next)).asideF hfar 1 (.slice V.ja V.jl V.jc)).base (B := B) (by omega)
            refine ⟨V.ja, V.jc, V.js, iz, mz, by rw [HLv.out.nums.1, HLv.out.js.2], ?_, HLv.out.js.1⟩
            rw [← HLv.out.js.2]
            exact hd2
          obtain ⟨Y, eY⟩ : ∃ Y, Y = (Z.setCell ⟨w.heap.size + 4, 0, none⟩ (.int .i64 V.next)).setCell ⟨w.heap.size + 4, 1, none⟩ (.slice V.ja V.jl V.jc) := ⟨_, rfl⟩
          rw [← eY] at rbF bF hdk ⊢
          clear eY
          have k0 : Y.cell? ⟨w.heap.size + 4, 0, none⟩ = some (.int .i64 V.next) := (rbF.c 0 (by decide)).1
          have k1 : Y.cell? ⟨w.heap.size + 4, 1, none⟩ = some (.slice V.ja V.jl V.jc) := (rbF.c 1 (by decide)).1
          exact bodyPost_ret (v := .agg #[.int .i64 V.next, .slice V.ja V.jl V.jc]) (by simp [results, Tryd.results10, go_sem, k0, k1]) rfl ⟨⟨_, rfl, hdk⟩, bF⟩
        · have hE' : (E == 0) = false := by simpa using hE
          have HNZ : Hid (backNx ⟨s, ls, p, l, me⟩ nx bs ⟨3, frm, dst, site, num, label, key, value, version, ask, yes, code⟩ ⟨rk, ra, rb, rc, rd, re⟩ = nx ∧ backJs ⟨s, ls, p, l, me⟩ nx bs ⟨3, frm, dst, site, num, label, key, value, version, ask, yes, code⟩ ⟨rk, ra, rb, rc, rd, re⟩ = bs) := by
            have h1 := HNY.out
            rw [if_neg hE, if_neg hE] at h1
            exact h1
          go_upto_region 19 with (go_at_call 11; refine HH.out.mono ?_; rintro e y ⟨V, iz, mz, rfl, hLv, hby⟩; simp only [CkV.turn])
          obtain ⟨Z, eZ⟩ : ∃ Z : World, Z = y.alloc (.cells #[.int .i64 V.next, .slice V.ja V.jl V.jc, .slice V.ma V.ml V.mc, .slice V.ra V.rl V.rc, .slice V.pa V.pl V.pc, .int .i64 V.sure, .int .i64 V.com] 34) := ⟨_, rfl⟩
          have bZ : Below y.heap.size y Z := by rw [eZ]; exact (Below.refl _ _).alloc (Nat.le_refl _) _
          rw [← eZ]
          have bXZ := nT hby bZ
          have bWZ := nT bX bXZ
          have rbx := HBox.out Z bWZ
          have r0 : Z.cell? ⟨w.heap.size + 4, 0, none⟩ = some (.int .i64 0) := (rbx.c 0 (by decide)).1
          have r1 : Z.cell? ⟨w.heap.size + 4, 1, none⟩ = some (.slice none 0 0) := (rbx.c 1 (by decide)).1
          have rf0 := (rbx.c 0 (by decide)).2
          have rf1 := (rbx.c 1 (by decide)).2
          have zr := rbx.lt
          clear eZ hLv x0 x1 x2 x3 x4 x5 x6 x7 x8 x9 x10 x11 d0 d1 d2 d3 d4
          obtain ⟨-, -, -, d3, d4, -, -, -, -, -, -, -, -, -, -, -, -, -, -, -, -, -, -⟩ := KC.out Z bWZ
          have z5Z := (HZ.out Z bWZ).2
          go_wp2
          have rbF := (rbx.set 0 (by decide) (.int .i64 nx)).set 1 (by decide) (.slice da N dc)
          have bF : Below w.heap.size w ((Z.setCell ⟨w.heap.size + 4, 0, none⟩ (.int .i64 nx)).setCell ⟨w.heap.size + 4, 1, none⟩ (.slice da N dc)) := ((HZ.out Z bWZ).1.setCell (p := ⟨w.heap.size + 4, 0, none⟩) (by show w.heap.size ≤ w.heap.size + 4; omega) _).setCell (p := ⟨w.heap.size + 4, 1, none⟩) (by show w.heap.size ≤ w.heap.size + 4; omega) _
          have hdk : DkIs B ((Z.setCell ⟨w.heap.size + 4, 0, none⟩ (.int .i64 nx)).setCell ⟨w.heap.size + 4, 1, none⟩ (.slice da N dc)) (.agg #[.int .i64 nx, .slice da N dc]) (backNx ⟨s, ls, p, l, me⟩ nx bs ⟨3, frm, dst, site, num, label, key, value, version, ask, yes, code⟩ ⟨rk, ra, rb, rc, rd, re⟩) (backJs ⟨s, ls, p, l, me⟩ nx bs ⟨3, frm, dst, site, num, label, key, value, version, ask, yes, code⟩ ⟨rk, ra, rb, rc, rd, re⟩) := by
            have h1 := HNZ.out
            rw [h1.1, h1.2]
            have hfar := HD.out.farNew (r := w.heap.size + 4) (by omega)
            have hd2 := ((HD.out.below (HZ.out Z bWZ).1).asideF hfar 0 (.int .i64 nx)).asideF hfar 1 (.slice da N dc)
            refine ⟨da, dc, js, ix, more, by rw [HN.out], ?_, HBs.out⟩
            rw [HN.out] at hd2
            rw [HN.out]
            exact hd2
          obtain ⟨Y, eY⟩ : ∃ Y, Y = (Z.setCell ⟨w.heap.size + 4, 0, none⟩ (.int .i64 nx)).setCell ⟨w.heap.size + 4, 1, none⟩ (.slice da N dc) := ⟨_, rfl⟩
          rw [← eY] at rbF bF hdk ⊢
          clear eY
          have k0 : Y.cell? ⟨w.heap.size + 4, 0, none⟩ = some (.int .i64 nx) := (rbF.c 0 (by decide)).1
          have k1 : Y.cell? ⟨w.heap.size + 4, 1, none⟩ = some (.slice da N dc) := (rbF.c 1 (by decide)).1
          exact bodyPost_ret (v := .agg #[.int .i64 nx, .slice da N dc]) (by simp [results, Tryd.results10, go_sem, k0, k1]) rfl ⟨⟨_, rfl, hdk⟩, bF⟩
      · have h3' : (kind == 3) = false := by simpa using h3
        have HB8 : Hid (backM me ⟨kind, frm, dst, site, num, label, key, value, version, ask, yes, code⟩ ⟨rk, ra, rb, rc, rd, re⟩ = ⟨8, dst, me, site, num, 0, key, 0, 0, 0, false, 0⟩) := by show _ = _; unfold backM; rw [if_neg h1, if_neg h2, if_neg h3]
        go_enter Tryd.func10, Tryd.ntmps10
        go_upto_region 1 with (fail)
        rw [← hW]
        clear hW
        go_upto_region 18 with (fail)
        obtain ⟨X, hX⟩ : ∃ X : World, X = W.alloc (.cells #[.int .i64 8, .int .i64 dst, .int .i64 me, .int .i64 site, .int .i64 num, .int .i64 0, .int .i64 key, .int .i64 0, .int .i64 0, .int .i64 0, .bool false, .int .i64 0] 46) := ⟨_, rfl⟩
        have bX : Below W.heap.size W X := by rw [hX]; exact (Below.refl _ _).alloc (Nat.le_refl _) _
        have zX : W.heap.size < X.heap.size := by rw [hX]; simp
        have xb : BoxN X W.heap.size 12 [.int .i64 8, .int .i64 dst, .int .i64 me, .int .i64 site, .int .i64 num, .int .i64 0, .int .i64 key, .int .i64 0, .int .i64 0, .int .i64 0, .bool false, .int .i64 0] := by
          rw [hX]
          exact boxn_new W #[.int .i64 8, .int .i64 dst, .int .i64 me, .int .i64 site, .int .i64 num, .int .i64 0, .int .i64 key, .int .i64 0, .int .i64 0, .int .i64 0, .bool false, .int .i64 0] 46 12 rfl
        rw [← hX]
        clear hX c0 c1 c2 c3 c4 c5 c6 c7 c8 c9 c10 c11 c12 c13 c14 c15 c16 c17 c18 c19 c20 c21 c22
        obtain ⟨d0, d1, d2, d3, d4, -, -, -, -, -, -, -, -, -, -, -, -, -, -, -, -, -, -⟩ := KC.out X bX
        have x0 : X.cell? ⟨W.heap.size, 0, none⟩ = some (.int .i64 8) := (xb.c 0 (by decide)).1
        have x1 : X.cell? ⟨W.heap.size, 1, none⟩ = some (.int .i64 dst) := (xb.c 1 (by decide)).1
        have x2 : X.cell? ⟨W.heap.size, 2, none⟩ = some (.int .i64 me) := (xb.c 2 (by decide)).1
        have x3 : X.cell? ⟨W.heap.size, 3, none⟩ = some (.int .i64 site) := (xb.c 3 (by decide)).1
        have x4 : X.cell? ⟨W.heap.size, 4, none⟩ = some (.int .i64 num) := (xb.c 4 (by decide)).1
        have x5 : X.cell? ⟨W.heap.size, 5, none⟩ = some (.int .i64 0) := (xb.c 5 (by decide)).1
        have x6 : X.cell? ⟨W.heap.size, 6, none⟩ = some (.int .i64 key) := (xb.c 6 (by decide)).1
        have x7 : X.cell? ⟨W.heap.size, 7, none⟩ = some (.int .i64 0) := (xb.c 7 (by decide)).1
        have x8 : X.cell? ⟨W.heap.size, 8, none⟩ = some (.int .i64 0) := (xb.c 8 (by decide)).1
        have x9 : X.cell? ⟨W.heap.size, 9, none⟩ = some (.int .i64 0) := (xb.c 9 (by decide)).1
        have x10 : X.cell? ⟨W.heap.size, 10, none⟩ = some (.bool false) := (xb.c 10 (by decide)).1
        have x11 : X.cell? ⟨W.heap.size, 11, none⟩ = some (.int .i64 0) := (xb.c 11 (by decide)).1
        have z5 := (HZ.out X bX).2
        have HH : Hid (Calls Tryd.prog 11 #[.agg #[.int .i64 s, .slice a len cap, .int .i64 p], .int .i64 l, .int .i64 me, .agg #[.int .i64 nx, .slice da N dc], .agg #[.int .i64 8, .int .i64 dst, .int .i64 me, .int .i64 site, .int .i64 num, .int .i64 0, .int .i64 key, .int .i64 0, .int .i64 0, .int .i64 0, .bool false, .int .i64 0]] X fun e w' => ∃ (v' : CkV) (ix' : List (Nat × Nat)) (more' : List Rw), e = .returned (.tuple #[v'.turn, .int .i64 (hrErr ⟨s, ls, p, l, me⟩ nx bs ⟨8, dst, me, site, num, 0, key, 0, 0, 0, false, 0⟩)]) ∧ Live X.heap.size w' v' ix' more' (HearAns ⟨s, ls, p, l, me⟩ nx bs ⟨8, dst, me, site, num, 0, key, 0, 0, 0, false, 0⟩) ∧ Below X.heap.size X w') := HHr.out ⟨8, dst, me, site, num, 0, key, 0, 0, 0, false, 0⟩ X (HZ.out X bX).1
        have HNX := HNx.out ⟨8, dst, me, site, num, 0, key, 0, 0, 0, false, 0⟩ HB8.out
        have HNY : Hid _ := HNX
        clear HNX HNx HHr
        obtain ⟨E, eE⟩ : ∃ E, E = hrErr ⟨s, ls, p, l, me⟩ nx bs ⟨8, dst, me, site, num, 0, key, 0, 0, 0, false, 0⟩ := ⟨_, rfl⟩
        rw [← eE] at HH HNY
        clear eE
        by_cases hE : E = 0
        · subst hE
          have HNZ : Hid (backNx ⟨s, ls, p, l, me⟩ nx bs ⟨kind, frm, dst, site, num, label, key, value, version, ask, yes, code⟩ ⟨rk, ra, rb, rc, rd, re⟩ = (HearAns ⟨s, ls, p, l, me⟩ nx bs ⟨8, dst, me, site, num, 0, key, 0, 0, 0, false, 0⟩).next ∧ backJs ⟨s, ls, p, l, me⟩ nx bs ⟨kind, frm, dst, site, num, label, key, value, version, ask, yes, code⟩ ⟨rk, ra, rb, rc, rd, re⟩ = (HearAns ⟨s, ls, p, l, me⟩ nx bs ⟨8, dst, me, site, num, 0, key, 0, 0, 0, false, 0⟩).js) := by
            have h1 := HNY.out
            rw [if_pos rfl, if_pos rfl] at h1
            exact h1
          go_upto_region 19 with (go_at_call 11; refine HH.out.mono ?_; rintro e y ⟨V, iz, mz, rfl, hLv, hby⟩; simp only [CkV.turn])
          obtain ⟨Z, eZ⟩ : ∃ Z : World, Z = y.alloc (.cells #[.int .i64 V.next, .slice V.ja V.jl V.jc, .slice V.ma V.ml V.mc, .slice V.ra V.rl V.rc, .slice V.pa V.pl V.pc, .int .i64 V.sure, .int .i64 V.com] 34) := ⟨_, rfl⟩
          have bZ : Below y.heap.size y Z := by rw [eZ]; exact (Below.refl _ _).alloc (Nat.le_refl _) _
          have tb : BoxN Z y.heap.size 7 [.int .i64 V.next, .slice V.ja V.jl V.jc, .slice V.ma V.ml V.mc, .slice V.ra V.rl V.rc, .slice V.pa V.pl V.pc, .int .i64 V.sure, .int .i64 V.com] := by rw [eZ]; exact boxn_new y #[.int .i64 V.next, .slice V.ja V.jl V.jc, .slice V.ma V.ml V.mc, .slice V.ra V.rl V.rc, .slice V.pa V.pl V.pc, .int .i64 V.sure, .int .i64 V.com] 34 7 rfl
          rw [← eZ]
          have t0 : Z.cell? ⟨y.heap.size, 0, none⟩ = some (.int .i64 V.next) := (tb.c 0 (by decide)).1
          have t1 : Z.cell? ⟨y.heap.size, 1, none⟩ = some (.slice V.ja V.jl V.jc) := (tb.c 1 (by decide)).1
          have zt := tb.lt
          have bXZ := nT hby bZ
          have bWZ := nT bX bXZ
          have rbx := HBox.out Z bWZ
          have r0 : Z.cell? ⟨w.heap.size + 4, 0, none⟩ = some (.int .i64 0) := (rbx.c 0 (by decide)).1
          have r1 : Z.cell? ⟨w.heap.size + 4, 1, none⟩ = some (.slice none 0 0) := (rbx.c 1 (by decide)).1
          have rf0 := (rbx.c 0 (by decide)).2
          have rf1 := (rbx.c 1 (by decide)).2
          have zr := rbx.lt
          have HLv : Hid (Live X.heap.size Z V iz mz (HearAns ⟨s, ls, p, l, me⟩ nx bs ⟨8, dst, me, site, num, 0, key, 0, 0, 0, false, 0⟩)) := hLv.below bZ
          clear eZ hLv x0 x1 x2 x3 x4 x5 x6 x7 x8 x9 x10 x11 d0 d1 d2 d3 d4 tb
          go_wp2
          have rbF := (rbx.set 0 (by decide) (.int .i64 V.next)).set 1 (by decide) (.slice V.ja V.jl V.jc)
          have bF : Below w.heap.size w ((Z.setCell ⟨w.heap.size + 4, 0, none⟩ (.int .i64 V.next)).setCell ⟨w.heap.size + 4, 1, none⟩ (.slice V.ja V.jl V.jc)) := ((HZ.out Z bWZ).1.setCell (p := ⟨w.heap.size + 4, 0, none⟩) (by show w.heap.size ≤ w.heap.size + 4; omega) _).setCell (p := ⟨w.heap.size + 4, 1, none⟩) (by show w.heap.size ≤ w.heap.size + 4; omega) _
          have hdk : DkIs B ((Z.setCell ⟨w.heap.size + 4, 0, none⟩ (.int .i64 V.next)).setCell ⟨w.heap.size + 4, 1, none⟩ (.slice V.ja V.jl V.jc)) (.agg #[.int .i64 V.next, .slice V.ja V.jl V.jc]) (backNx ⟨s, ls, p, l, me⟩ nx bs ⟨kind, frm, dst, site, num, label, key, value, version, ask, yes, code⟩ ⟨rk, ra, rb, rc, rd, re⟩) (backJs ⟨s, ls, p, l, me⟩ nx bs ⟨kind, frm, dst, site, num, label, key, value, version, ask, yes, code⟩ ⟨rk, ra, rb, rc, rd, re⟩) := by
            have h1 := HNZ.out
            rw [h1.1, h1.2]
            have hd := HLv.out.desk
            have hfar := hd.farOld (r := w.heap.size + 4) (by omega)
            have hd2 := ((hd.asideF hfar 0 (.int .i64 V.next)).asideF hfar 1 (.slice V.ja V.jl V.jc)).base (B := B) (by omega)
            refine ⟨V.ja, V.jc, V.js, iz, mz, by rw [HLv.out.nums.1, HLv.out.js.2], ?_, HLv.out.js.1⟩
            rw [← HLv.out.js.2]
            exact hd2
          obtain ⟨Y, eY⟩ : ∃ Y, Y = (Z.setCell ⟨w.heap.size + 4, 0, none⟩ (.int .i64 V.next)).setCell ⟨w.heap.size + 4, 1, none⟩ (.slice V.ja V.jl V.jc) := ⟨_, rfl⟩
          rw [← eY] at rbF bF hdk ⊢
          clear eY
          have k0 : Y.cell? ⟨w.heap.size + 4, 0, none⟩ = some (.int .i64 V.next) := (rbF.c 0 (by decide)).1
          have k1 : Y.cell? ⟨w.heap.size + 4, 1, none⟩ = some (.slice V.ja V.jl V.jc) := (rbF.c 1 (by decide)).1
          exact bodyPost_ret (v := .agg #[.int .i64 V.next, .slice V.ja V.jl V.jc]) (by simp [results, Tryd.results10, go_sem, k0, k1]) rfl ⟨⟨_, rfl, hdk⟩, bF⟩
        · have hE' : (E == 0) = false := by simpa using hE
          have HNZ : Hid (backNx ⟨s, ls, p, l, me⟩ nx bs ⟨kind, frm, dst, site, num, label, key, value, version, ask, yes, code⟩ ⟨rk, ra, rb, rc, rd, re⟩ = nx ∧ backJs ⟨s, ls, p, l, me⟩ nx bs ⟨kind, frm, dst, site, num, label, key, value, version, ask, yes, code⟩ ⟨rk, ra, rb, rc, rd, re⟩ = bs) := by
            have h1 := HNY.out
            rw [if_neg hE, if_neg hE] at h1
            exact h1
          go_upto_region 19 with (go_at_call 11; refine HH.out.mono ?_; rintro e y ⟨V, iz, mz, rfl, hLv, hby⟩; simp only [CkV.turn])
          obtain ⟨Z, eZ⟩ : ∃ Z : World, Z = y.alloc (.cells #[.int .i64 V.next, .slice V.ja V.jl V.jc, .slice V.ma V.ml V.mc, .slice V.ra V.rl V.rc, .slice V.pa V.pl V.pc, .int .i64 V.sure, .int .i64 V.com] 34) := ⟨_, rfl⟩
          have bZ : Below y.heap.size y Z := by rw [eZ]; exact (Below.refl _ _).alloc (Nat.le_refl _) _
          rw [← eZ]
          have bXZ := nT hby bZ
          have bWZ := nT bX bXZ
          have rbx := HBox.out Z bWZ
          have r0 : Z.cell? ⟨w.heap.size + 4, 0, none⟩ = some (.int .i64 0) := (rbx.c 0 (by decide)).1
          have r1 : Z.cell? ⟨w.heap.size + 4, 1, none⟩ = some (.slice none 0 0) := (rbx.c 1 (by decide)).1
          have rf0 := (rbx.c 0 (by decide)).2
          have rf1 := (rbx.c 1 (by decide)).2
          have zr := rbx.lt
          clear eZ hLv x0 x1 x2 x3 x4 x5 x6 x7 x8 x9 x10 x11 d0 d1 d2 d3 d4
          obtain ⟨-, -, -, d3, d4, -, -, -, -, -, -, -, -, -, -, -, -, -, -, -, -, -, -⟩ := KC.out Z bWZ
          have z5Z := (HZ.out Z bWZ).2
          go_wp2
          have rbF := (rbx.set 0 (by decide) (.int .i64 nx)).set 1 (by decide) (.slice da N dc)
          have bF : Below w.heap.size w ((Z.setCell ⟨w.heap.size + 4, 0, none⟩ (.int .i64 nx)).setCell ⟨w.heap.size + 4, 1, none⟩ (.slice da N dc)) := ((HZ.out Z bWZ).1.setCell (p := ⟨w.heap.size + 4, 0, none⟩) (by show w.heap.size ≤ w.heap.size + 4; omega) _).setCell (p := ⟨w.heap.size + 4, 1, none⟩) (by show w.heap.size ≤ w.heap.size + 4; omega) _
          have hdk : DkIs B ((Z.setCell ⟨w.heap.size + 4, 0, none⟩ (.int .i64 nx)).setCell ⟨w.heap.size + 4, 1, none⟩ (.slice da N dc)) (.agg #[.int .i64 nx, .slice da N dc]) (backNx ⟨s, ls, p, l, me⟩ nx bs ⟨kind, frm, dst, site, num, label, key, value, version, ask, yes, code⟩ ⟨rk, ra, rb, rc, rd, re⟩) (backJs ⟨s, ls, p, l, me⟩ nx bs ⟨kind, frm, dst, site, num, label, key, value, version, ask, yes, code⟩ ⟨rk, ra, rb, rc, rd, re⟩) := by
            have h1 := HNZ.out
            rw [h1.1, h1.2]
            have hfar := HD.out.farNew (r := w.heap.size + 4) (by omega)
            have hd2 := ((HD.out.below (HZ.out Z bWZ).1).asideF hfar 0 (.int .i64 nx)).asideF hfar 1 (.slice da N dc)
            refine ⟨da, dc, js, ix, more, by rw [HN.out], ?_, HBs.out⟩
            rw [HN.out] at hd2
            rw [HN.out]
            exact hd2
          obtain ⟨Y, eY⟩ : ∃ Y, Y = (Z.setCell ⟨w.heap.size + 4, 0, none⟩ (.int .i64 nx)).setCell ⟨w.heap.size + 4, 1, none⟩ (.slice da N dc) := ⟨_, rfl⟩
          rw [← eY] at rbF bF hdk ⊢
          clear eY
          have k0 : Y.cell? ⟨w.heap.size + 4, 0, none⟩ = some (.int .i64 nx) := (rbF.c 0 (by decide)).1
          have k1 : Y.cell? ⟨w.heap.size + 4, 1, none⟩ = some (.slice da N dc) := (rbF.c 1 (by decide)).1
          exact bodyPost_ret (v := .agg #[.int .i64 nx, .slice da N dc]) (by simp [results, Tryd.results10, go_sem, k0, k1]) rfl ⟨⟨_, rfl, hdk⟩, bF⟩
end Go.Proofs.YtdjnaahkcnklhabDoor.Co
/- The config of two labels, the second one above the first one. -/
namespace Go.Proofs.YtdjnaahkcnklhabDoor.Pt
open Go.ChangeShapes Go.WideShapes Go.ChangeAt Go.RowKit
set_option linter.unusedVariables false

def LS2 : List (Int × Int) := [(0, 0), (1, 0)]
theorem cfg_two {s p : Int} (h1 : 1 ≤ s) (h2 : s ≤ 4) (h3 : 1 ≤ p) (h4 : p ≤ 1048576) : cfgFault s LS2 p = 0 := by
  unfold cfgFault
  rw [if_neg (by omega), if_neg (by decide), if_neg (by decide), if_neg (by omega)]
set_option maxRecDepth 100000 in
theorem two_any (s : Int) (w : World) (hs : -9223372036854775808 ≤ s ∧ s ≤ 9223372036854775807) :
    Calls Tryd.prog 7 #[.int .i64 s] w fun e w' => ∃ g, e = .returned (.agg #[.int .i64 (1 + pk s 3), .slice (some ⟨g, 0, none⟩) 2 2, .int .i64 3]) ∧ IsLabs w' (some ⟨g, 0, none⟩) 2 2 LS2 ∧ w.heap.size ≤ g ∧ Below w.heap.size w w' := by
  have hp := pk_bd s 3 (by omega)
  have hwr : IntKind.i64.wrap (1 + pk s 3) = 1 + pk s 3 := by simp [IntKind.wrap, IntKind.bits, IntKind.signed]; omega
  have hP := fun u => picked_any s 3 u hs (by omega) (by omega)
  obtain ⟨K, eK⟩ : ∃ K, K = pk s 3 := ⟨_, rfl⟩
  rw [← eK] at hP hwr ⊢
  clear eK hp
  go_enter Tryd.func7, Tryd.ntmps7
  go_wp2_with (go_at_call 9; refine (hP _).mono ?_; rintro e u ⟨rfl, hu⟩; rw [hu]; clear hu)
  obtain ⟨X, eX⟩ : ∃ X : World, X = (w.alloc (.cells #[.int .i64 (1 + K), .slice (some ⟨w.heap.size + 1, 0, none⟩) 2 2, .int .i64 3] 25)).alloc (.cells #[.int .i64 0, .int .i64 0, .int .i64 1, .int .i64 0] 66) := ⟨_, rfl⟩
  have hb : Below w.heap.size w X := by rw [eX]; exact ((Below.refl _ _).alloc (Nat.le_refl _) _).alloc (by simp) _
  have c0 : X.cell? ⟨w.heap.size + 1, 0, none⟩ = some (.int .i64 0) := by rw [eX]; go_simp
  have c1 : X.cell? ⟨w.heap.size + 1, 1, none⟩ = some (.int .i64 0) := by rw [eX]; go_simp
  have c2 : X.cell? ⟨w.heap.size + 1, 2, none⟩ = some (.int .i64 1) := by rw [eX]; go_simp
  have c3 : X.cell? ⟨w.heap.size + 1, 3, none⟩ = some (.int .i64 0) := by rw [eX]; go_simp
  have q0 : X.cell? ⟨w.heap.size, 0, none⟩ = some (.int .i64 (1 + K)) := by rw [eX]; go_simp
  have q1 : X.cell? ⟨w.heap.size, 1, none⟩ = some (.slice (some ⟨w.heap.size + 1, 0, none⟩) 2 2) := by rw [eX]; go_simp
  have q2 : X.cell? ⟨w.heap.size, 2, none⟩ = some (.int .i64 3) := by rw [eX]; go_simp
  have zX : w.heap.size + 1 < X.heap.size := by rw [eX]; simp
  rw [← eX]
  clear eX
  refine bodyPost_ret (v := .agg #[.int .i64 (1 + K), .slice (some ⟨w.heap.size + 1, 0, none⟩) 2 2, .int .i64 3]) (by simp [results, Tryd.results7, go_sem, q0, q1, q2]) rfl ⟨w.heap.size + 1, rfl, ?_, by omega, ?_⟩
  · refine ⟨rfl, Nat.le_refl _, by unfold maxLen; omega, fun _ => ⟨w.heap.size + 1, 0, rfl, zX, fun i hi => ?_⟩⟩
    have hi2 : i = 0 ∨ i = 1 := by simp [LS2] at hi; omega
    rcases hi2 with rfl | rfl
    · exact ⟨c0, c1⟩
    · exact ⟨c2, c3⟩
  · exact hb
end Go.Proofs.YtdjnaahkcnklhabDoor.Pt
/- Small desks over the config of two labels, as plain data. -/
namespace Go.Proofs.YtdjnaahkcnklhabDoor.Co
open Go.ChangeShapes Go.WideShapes Go.ChangeAt Go.RowKit
open Go.Proofs.YtdjnaahkcnklhabDoor.St (IsRow idxI)
open Go.Proofs.YtdjnaahkcnklhabDoor.Pt (LS2 cfg_two two_any)
set_option linter.unusedVariables false

theorem rf_two {s l next : Int} {js : List JbV} (h1 : 1 ≤ s) (h2 : s ≤ 4) (hl : l = 0 ∨ l = 1) (hn : 1 ≤ next ∧ next ≤ 1048577) (hj : jbsOK s 2 next js = true) : rfErr s LS2 3 l 0 next js = 0 := by
  have hd : dkErr s LS2 3 next js = 0 := by
    unfold dkErr
    rw [if_pos (cfg_two h1 h2 (by omega) (by omega))]
    have e : ((LS2.length : Nat) : Int) = 2 := rfl
    rw [e, hj]
    have : inR next 1 1048577 = true := by simp [inR, hn]
    rw [this]
    rfl
  unfold rfErr
  rw [if_pos hd, if_pos (by rcases hl with rfl | rfl <;> decide), if_pos (by simp [inR]; omega)]
theorem cl_two {s l next kind : Int} {js : List JbV} (h1 : 1 ≤ s) (h2 : s ≤ 4) (hl : l = 0 ∨ l = 1) (hn : 1 ≤ next ∧ next ≤ 1048577) (hj : jbsOK s 2 next js = true) (hk : 1 ≤ kind ∧ kind ≤ 5) : clErr ⟨s, LS2, 3, l, 0⟩ next js kind = 0 := by
  unfold clErr
  rw [if_pos (rf_two h1 h2 hl hn hj), if_pos (by simp [inR, hk])]
theorem sees_two {s l b : Int} (h1 : 1 ≤ s) (h2 : s ≤ 4) (hl : l = 0 ∨ l = 1) (hb : b = 0 ∨ b = 1) : Se.seesB s LS2 3 l b = decide (b ≤ l) := by
  have hc := cfg_two (p := 3) h1 h2 (by omega) (by omega)
  unfold Se.seesB Se.seesErr
  rw [if_pos hc]
  rcases hl with rfl | rfl <;> rcases hb with rfl | rfl <;> decide
def tBegin : Tn := ⟨2, [newJob 1], [], [⟨5, 0, 1, 0, 0, 0, false, none, 0, 0, []⟩], [⟨0, 1, 1, 0, 0, 0⟩], 0, 0⟩
theorem ans_begin {s l : Int} (h1 : 1 ≤ s) (h2 : s ≤ 4) (hl : l = 0 ∨ l = 1) : clErr ⟨s, LS2, 3, l, 0⟩ 1 [] 1 = 0 ∧ CallAns ⟨s, LS2, 3, l, 0⟩ 1 [] 6000 ⟨1, 0, 0, 0, 0⟩ = tBegin := by
  have hc := cl_two (js := []) (kind := 1) (next := 1) h1 h2 hl (by omega) rfl (by omega)
  refine ⟨hc, ?_⟩
  unfold CallAns
  rw [if_pos hc]
  rfl
theorem jbs_new {s : Int} (h1 : 1 ≤ s) : jbsOK s 2 2 [newJob 1] = true := by
  simp [jbsOK, jbsGo, jbOK, rise, tksOK, tksGo, newJob, inR]
def jOne (t : TkV) : JbV := ⟨1, 1, none, 0, 0, none, 0, 0, 1, 0, [t], []⟩
theorem jbs_one {s : Int} {t : TkV} (h1 : 1 ≤ s) (ha : t.ask = 1) (hl : t.label = 0 ∨ t.label = 1) (hk : 0 ≤ t.key ∧ t.key ≤ 7) (hv : t.value = 0) (hw : t.version = 0) (hs : t.sure = false) : jbsOK s 2 2 [jOne t] = true := by
  have hl2 : 0 ≤ t.label ∧ t.label ≤ 1 := by omega
  simp [jbsOK, jbsGo, jbOK, rise, tksOK, tksGo, jOne, inR, tkOK, ha, hl2, hk, hv, hw, hs]
theorem idx_one {t : JbV} (h : t.n = 1) : idxI (isN 1) [t] = 0 := by
  simp [idxI, isN, h, List.findIdx?, List.findIdx?.go]
/-- A Get or a Put of the job 1 that has no task yet. -/
theorem ans_ask {s l kind label key : Int} (h1 : 1 ≤ s) (h2 : s ≤ 4) (hl : l = 0 ∨ l = 1) (hb : label = 0 ∨ label = 1) (hs : kind = 2 → label ≤ l) (hk : 0 ≤ key ∧ key ≤ 7) (hK : kind = 2 ∨ kind = 3) : CallAns ⟨s, LS2, 3, l, 0⟩ 2 [newJob 1] 6000 ⟨kind, 1, label, key, 0⟩ = ⟨2, [jOne ⟨decide (kind = 3), if kind = 2 then label else l, key, 0, 0, 1, false, false⟩], [⟨if kind = 2 then 1 else 2, 0, homeNum s LS2 3 key, 0, 1, if kind = 2 then label else 0, key, 0, 0, 1, false, 0⟩], [], [], 0, 0⟩ := by
  have hc := cl_two (js := [newJob 1]) (kind := kind) (next := 2) h1 h2 hl (by omega) (jbs_new h1) (by omega)
  unfold CallAns
  rw [if_pos hc]
  have e1 : ¬ kind = 1 := by omega
  have e2 : idxI (isN 1) (tn0 2 [newJob 1]).js = 0 := idx_one rfl
  have e3 : (tn0 2 [newJob 1]).js.getD 0 default = newJob 1 := rfl
  have e4 : askErr ⟨s, LS2, 3, l, 0⟩ ⟨kind, 1, label, key, 0⟩ (newJob 1) = 0 := by
    unfold askErr
    have k1 : (kind == 2 || kind == 3) = true := by simpa using hK
    have k2 : (inR key 0 7 && inR (0 : Int) 0 1073741824) = true := by simp [inR, hk]
    have k3 : (kind == 2 && !Cx.sees ⟨s, LS2, 3, l, 0⟩ label) = false := by
      unfold Cx.sees
      simp only []
      rw [sees_two h1 h2 hl hb]
      rcases hK with rfl | rfl
      · have := hs rfl
        simp [this]
      · rfl
    simp only []
    rw [k1, k2, k3]
    rfl
  unfold Tn.call
  simp only [e2, e3, Int.toNat_zero]
  rw [if_neg e1, if_neg (by decide), e4, if_neg (by decide)]
  rcases hK with rfl | rfl
  · rfl
  · rfl
/-- Of a label that is not seen nothing is asked. -/
theorem ans_up {s key : Int} (h1 : 1 ≤ s) (h2 : s ≤ 4) (hk : 0 ≤ key ∧ key ≤ 7) : CallAns ⟨s, LS2, 3, 0, 0⟩ 2 [newJob 1] 6000 ⟨2, 1, 1, key, 0⟩ = ⟨2, [newJob 1], [], [], [⟨0, 2, 1, key, 0, 10⟩], 0, 0⟩ := by
  have hc := cl_two (js := [newJob 1]) (kind := 2) (next := 2) (l := 0) h1 h2 (by omega) (by omega) (jbs_new h1) (by omega)
  unfold CallAns
  rw [if_pos hc]
  have e2 : idxI (isN 1) (tn0 2 [newJob 1]).js = 0 := idx_one rfl
  have e3 : (tn0 2 [newJob 1]).js.getD 0 default = newJob 1 := rfl
  have e4 : askErr ⟨s, LS2, 3, 0, 0⟩ ⟨2, 1, 1, key, 0⟩ (newJob 1) = 10 := by
    unfold askErr
    have k2 : (inR key 0 7 && inR (0 : Int) 0 1073741824) = true := by simp [inR, hk]
    have k3 : Cx.sees ⟨s, LS2, 3, 0, 0⟩ 1 = false := by
      unfold Cx.sees
      simp only []
      rw [sees_two h1 h2 (Or.inl rfl) (Or.inr rfl)]
      rfl
    simp only []
    rw [k2, k3]
    rfl
  unfold Tn.call
  simp only [e2, e3, Int.toNat_zero]
  rw [if_neg (by decide), if_neg (by decide), e4, if_pos (by decide)]
  rfl
/-- Who waits for a task asks for no other one. -/
theorem ans_wait {s l kind label key : Int} {t : TkV} (h1 : 1 ≤ s) (h2 : s ≤ 4) (hl : l = 0 ∨ l = 1) (ha : t.ask = 1) (hb : t.label = 0 ∨ t.label = 1) (hk : 0 ≤ t.key ∧ t.key ≤ 7) (hv : t.value = 0) (hw : t.version = 0) (hs : t.sure = false) (hd : t.done = false) (hK : 2 ≤ kind ∧ kind ≤ 5) : CallAns ⟨s, LS2, 3, l, 0⟩ 2 [jOne t] 6000 ⟨kind, 1, label, key, 0⟩ = ⟨2, [jOne t], [], [], [⟨0, kind, 1, key, 0, 14⟩], 0, 0⟩ ∧ clErr ⟨s, LS2, 3, l, 0⟩ 2 [jOne t] kind = 0 := by
  have hc := cl_two (js := [jOne t]) (kind := kind) (next := 2) h1 h2 hl (by omega) (jbs_one h1 ha hb hk hv hw hs) (by omega)
  refine ⟨?_, hc⟩
  unfold CallAns
  rw [if_pos hc]
  have e2 : idxI (isN 1) (tn0 2 [jOne t]).js = 0 := idx_one rfl
  have e3 : (tn0 2 [jOne t]).js.getD 0 default = jOne t := rfl
  have e4 : askErr ⟨s, LS2, 3, l, 0⟩ ⟨kind, 1, label, key, 0⟩ (jOne t) = 14 := by
    unfold askErr
    have k2 : waitB (jOne t) = true := by simp [waitB, jOne, hd]
    rw [k2]
    rfl
  unfold Tn.call
  simp only [e2, e3, Int.toNat_zero]
  rw [if_neg (by omega), if_neg (by decide), e4, if_pos (by decide)]
  rfl
end Go.Proofs.YtdjnaahkcnklhabDoor.Co
