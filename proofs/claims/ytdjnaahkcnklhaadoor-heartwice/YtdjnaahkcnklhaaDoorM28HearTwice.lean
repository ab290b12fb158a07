/- Texts of this claim, one behind the other. -/
import Derived.Test.YtdjnaahkcnklhaaDoorM27HearTwice
import Derived.Test.YtdjnaahkcnklhaaDoorProg
import Derived.WalkKit
import Derived.ProofKit
import Derived.Below
import Derived.OpenShut
import Derived.Test.YtdjnaahkcnklhaaDoorA0HearTwice
import Derived.Test.YtdjnaahkcnklhaaDoorA4HearTwice
/- Desks in memory of their own. -/
namespace Go.Proofs.YtdjnaahkcnklhaaDoor.Co
open Go.ChangeShapes Go.WideShapes Go.ChangeAt Go.RowKit
open Go.Proofs.YtdjnaahkcnklhaaDoor.St (BoxN boxn_new own_below grown_setCell IsRow Elem flat flat_append own_isRow idxI idxI_lt)
set_option linter.unusedVariables false

theorem DeskAt.below {X X' : World} {B : Nat} {a : Option Addr} {n c : Nat} {js : List JbV} {ix : List (Nat × Nat)} {more : List Rw} (h : DeskAt X B a n c js ix more) (hb : Below X.heap.size X X') : DeskAt X' B a n c js ix more := ⟨h.own.below hb, h.jobs, h.len, h.fit, h.inn⟩
theorem DeskAt.base {X : World} {B B' : Nat} {a : Option Addr} {n c : Nat} {js : List JbV} {ix : List (Nat × Nat)} {more : List Rw} (h : DeskAt X B' a n c js ix more) (hb : B ≤ B') : DeskAt X B a n c js ix more := ⟨h.own.base hb, h.jobs, h.len, h.fit, h.inn⟩
theorem DeskAt.aside {X : World} {B r : Nat} {a : Option Addr} {n c : Nat} {js : List JbV} {ix : List (Nat × Nat)} {more : List Rw} (h : DeskAt X B a n c js ix more) (hr : r < B) (j : Nat) (v : Value) : DeskAt (X.setCell ⟨r, j, none⟩ v) B a n c js ix more := by
  refine ⟨h.own.aside (fun i s e e2 => ?_) j v, h.jobs, h.len, h.fit, h.inn⟩
  have := ((h.own.own i s e).lt _ e2).1
  omega
theorem DeskAt.isJobs {X : World} {B : Nat} {a : Option Addr} {n c : Nat} {js : List JbV} {ix : List (Nat × Nat)} {more : List Rw} (h : DeskAt X B a n c js ix more) : IsJobs X a n c js := by
  have o0 := h.own.own 0 (jobRow a n c js) rfl
  refine ⟨(own_isRow jb_len o0 h.len).1, fun j hj => ?_⟩
  obtain ⟨i, hi, rfl⟩ := List.getElem_of_mem hj
  obtain ⟨x, ex, e1, e2⟩ := h.jobs.at hi
  have e3 : js.getD i default = js[i] := by simp [List.getD, hi]
  rw [e3] at e1 e2
  have o1 := h.own.own (x.1 + 1) _ (by simpa using e1)
  have o2 := h.own.own (x.2 + 1) _ (by simpa using e2)
  exact ⟨(own_isRow tk_len o1 (own_count tk_len (by decide) o1)).1, (own_isRow in_len o2 (own_count in_len (by decide) o2)).1⟩
theorem Live.desk {B : Nat} {u : World} {v : CkV} {ix : List (Nat × Nat)} {more : List Rw} {t : Tn} (h : Live B u v ix more t) : DeskAt u B v.ja v.jl v.jc v.js ix more := by
  refine ⟨⟨fun i r e => ?_, fun i j r s e1 e2 hij => ?_⟩, h.jobs, h.lens.1, fun j hj => ?_, h.jobs.inn⟩
  · match i, e with
    | 0, e => exact h.own.own 0 r e
    | i + 1, e => exact h.own.own (4 + i) r (more_get (by simpa using e))
  · match i, e1, j, e2 with
    | 0, e1, 0, e2 => exact absurd rfl hij
    | 0, e1, j + 1, e2 => exact h.own.ap 0 (4 + j) r s e1 (more_get (by simpa using e2)) (by omega)
    | i + 1, e1, 0, e2 => exact h.own.ap (4 + i) 0 r s (more_get (by simpa using e1)) e2 (by omega)
    | i + 1, e1, j + 1, e2 => exact h.own.ap (4 + i) (4 + j) r s (more_get (by simpa using e1)) (more_get (by simpa using e2)) (by omega)
  · obtain ⟨i, hi, rfl⟩ := List.getElem_of_mem hj
    obtain ⟨x, ex, e1, e2⟩ := h.jobs.at hi
    have e3 : v.js.getD i default = v.js[i] := by simp [List.getD, hi]
    rw [e3] at e1 e2
    have o1 := h.own.own _ _ (more_get e1)
    have o2 := h.own.own _ _ (more_get e2)
    exact ⟨own_count tk_len (by decide) o1, own_count in_len (by decide) o2⟩
/-- A desk in memory of its own, as plain data: D is its value, (nx, bs) what it says. -/
def DkIs (B : Nat) (w : World) (D : Value) (nx : Int) (bs : List JbV) : Prop := ∃ (a : Option Addr) (c : Nat) (js : List JbV) (ix : List (Nat × Nat)) (more : List Rw), D = .agg #[.int .i64 nx, .slice a bs.length c] ∧ DeskAt w B a bs.length c js ix more ∧ js.map JbV.bare = bs
theorem dk_new (B : Nat) (w : World) (nx : Int) : DkIs B w (.agg #[.int .i64 nx, .slice none 0 0]) nx [] := ⟨none, 0, [], [], [], rfl, deskAt_nil w B, rfl⟩
theorem Live.dk {B : Nat} {u : World} {v : CkV} {ix : List (Nat × Nat)} {more : List Rw} {t : Tn} (h : Live B u v ix more t) : DkIs B u (.agg #[.int .i64 v.next, .slice v.ja v.jl v.jc]) t.next t.js := by
  refine ⟨v.ja, v.jc, v.js, ix, more, ?_, ?_, h.js.1⟩
  · rw [h.nums.1, h.js.2]
  · rw [← h.js.2]; exact h.desk
theorem hr_bare (C : Cx) (next : Int) (js : List JbV) (m : MV) : hrErr C next (js.map JbV.bare) m = hrErr C next js m := by
  unfold hrErr
  rw [rf_bare]
theorem hans_bare (C : Cx) (next : Int) (js : List JbV) (m : MV) : HearAns C next (js.map JbV.bare) m = HearAns C next js m := by
  unfold HearAns
  rw [hr_bare, tn0_bare]
theorem call_dk (s p : Int) (a : Option Addr) (len cap : Nat) (ls : List (Int × Int)) (l me nx : Int) (da : Option Addr) (dc : Nat) (bs : List JbV) (room : Int) (x : ClV) (w : World) {B : Nat} (hl : IsLabs w a len cap ls) {js : List JbV} {ix : List (Nat × Nat)} {more : List Rw} (hD : DeskAt w B da bs.length dc js ix more) (hb : js.map JbV.bare = bs) :
    Calls Tryd.prog 11 #[.agg #[.int .i64 s, .slice a len cap, .int .i64 p], .int .i64 l, .int .i64 me, .agg #[.int .i64 nx, .slice da bs.length dc], .int .i64 room, x.val] w fun e w' => ∃ (v' : CkV) (ix' : List (Nat × Nat)) (more' : List Rw), e = .returned (.tuple #[v'.turn, .int .i64 (clErr ⟨s, ls, p, l, me⟩ nx bs x.kind)]) ∧ Live w.heap.size w' v' ix' more' (CallAns ⟨s, ls, p, l, me⟩ nx bs room x) ∧ Below w.heap.size w w' := by
  refine (call_any s p a len cap ls l me nx da bs.length dc js room x w hl hD.isJobs).mono ?_
  rintro e w' ⟨tv, rfl, hT⟩
  obtain ⟨v', ix', more', rfl, h1, h2⟩ := turn_live hT
  rw [← hb, cl_bare, ans_bare]
  exact ⟨v', ix', more', rfl, h1, h2⟩
theorem hear_dk (s p : Int) (a : Option Addr) (len cap : Nat) (ls : List (Int × Int)) (l me nx : Int) (da : Option Addr) (dc : Nat) (bs : List JbV) (m : MV) (w : World) {B : Nat} (hl : IsLabs w a len cap ls) {js : List JbV} {ix : List (Nat × Nat)} {more : List Rw} (hD : DeskAt w B da bs.length dc js ix more) (hb : js.map JbV.bare = bs) (hT : ∀ U, Below w.heap.size w U → Tables U) :
    Calls Tryd.prog 15 #[.agg #[.int .i64 s, .slice a len cap, .int .i64 p], .int .i64 l, .int .i64 me, .agg #[.int .i64 nx, .slice da bs.length dc], m.val] w fun e w' => ∃ (v' : CkV) (ix' : List (Nat × Nat)) (more' : List Rw), e = .returned (.tuple #[v'.turn, .int .i64 (hrErr ⟨s, ls, p, l, me⟩ nx bs m)]) ∧ Live w.heap.size w' v' ix' more' (HearAns ⟨s, ls, p, l, me⟩ nx bs m) ∧ Below w.heap.size w w' := by
  refine (hear_coord s p a len cap ls l me nx da bs.length dc js m w hl hD.isJobs hT).mono ?_
  rintro e w' ⟨tv, rfl, hT⟩
  obtain ⟨v', ix', more', rfl, h1, h2⟩ := turn_live hT
  rw [← hb, hr_bare, hans_bare]
  exact ⟨v', ix', more', rfl, h1, h2⟩
theorem tk_bare (C : Cx) (next : Int) (js : List JbV) : TickAns C next (js.map JbV.bare) = TickAns C next js := by
  unfold TickAns
  rw [rf_bare, tn0_bare, List.map_map]
  rfl
end Go.Proofs.YtdjnaahkcnklhaaDoor.Co
/- The contract of picked: a number from 0 on below another one. -/
namespace Go.Proofs.YtdjnaahkcnklhaaDoor
open Go.ChangeShapes Go.WideShapes Go.ChangeAt Go.RowKit

def pk (n m : Int) : Int := (if n < 0 then -(n + 1) else n) % m
theorem pk_bd (n m : Int) (h : 0 < m) : 0 ≤ pk n m ∧ pk n m < m := ⟨Int.emod_nonneg _ (by omega), Int.emod_lt_of_pos _ h⟩
theorem pk_neg {n m : Int} (h : n < 0) : pk n m = (-(n + 1)) % m := by simp [pk, h]
theorem pk_pos {n m : Int} (h : ¬ n < 0) : pk n m = n % m := by simp [pk, h]

theorem i64_bd {n : Int} (h : (Lit.int .i64 n).wf = true) : -9223372036854775808 ≤ n ∧ n ≤ 9223372036854775807 := by
  have := bounds_i64 h
  omega

theorem picked_any (n m : Int) (w : World) (hn : -9223372036854775808 ≤ n ∧ n ≤ 9223372036854775807) (hm : 0 < m) (hm2 : m ≤ 9223372036854775807) :
    Calls Tryd.prog 9 #[.int .i64 n, .int .i64 m] w fun e w' => e = .returned (.int .i64 (pk n m)) ∧ w' = w := by
  obtain ⟨h1, h2⟩ := hn
  by_cases h : n < 0
  · rw [pk_neg h]
    go_enter Tryd.func9, Tryd.ntmps9
    go_wp2
    go_ret
    exact ⟨ret_int (by rw [← Int.tmod_eq_emod_of_nonneg (by omega), Int.neg_tmod]), rfl⟩
  · rw [pk_pos h]
    have h0 : 0 ≤ n := by omega
    go_enter Tryd.func9, Tryd.ntmps9
    go_wp2
    go_ret
    exact ⟨rfl, rfl⟩

end Go.Proofs.YtdjnaahkcnklhaaDoor
/- What a message is answered with, mostly well: reredoskeep.back. -/
namespace Go.Proofs.YtdjnaahkcnklhaaDoor.Co
open Go.ChangeShapes Go.WideShapes Go.ChangeAt Go.RowKit
open Go.Proofs.YtdjnaahkcnklhaaDoor.St (BoxN boxn_new own_below grown_setCell IsRow Elem flat flat_append own_isRow idxI idxI_lt)
set_option linter.unusedVariables false

theorem DeskAt.asideF {X : World} {B r : Nat} {a : Option Addr} {n c : Nat} {js : List JbV} {ix : List (Nat × Nat)} {more : List Rw} (h : DeskAt X B a n c js ix more) (hr : Far r (jobRow a n c js :: more)) (j : Nat) (v : Value) : DeskAt (X.setCell ⟨r, j, none⟩ v) B a n c js ix more := ⟨h.own.aside hr j v, h.jobs, h.len, h.fit, h.inn⟩
theorem DeskAt.farNew {X : World} {B r : Nat} {a : Option Addr} {n c : Nat} {js : List JbV} {ix : List (Nat × Nat)} {more : List Rw} (h : DeskAt X B a n c js ix more) (hr : X.heap.size ≤ r) : Far r (jobRow a n c js :: more) := fun i s e e2 => by
  have := ((h.own.own i s e).lt _ e2).2
  omega
theorem DeskAt.farOld {X : World} {B r : Nat} {a : Option Addr} {n c : Nat} {js : List JbV} {ix : List (Nat × Nat)} {more : List Rw} (h : DeskAt X B a n c js ix more) (hr : r < B) : Far r (jobRow a n c js :: more) := fun i s e e2 => by
  have := ((h.own.own i s e).lt _ e2).1
  omega
/-- The answer to a message; r the raw numbers. -/
def backM (me : Int) (m : MV) (r : St.RV) : MV :=
  if m.kind = 1 then ⟨5, m.dst, me, m.site, m.num, m.label, m.key, pk r.rd 50, pk r.ra 4, m.ask, false, 0⟩
  else if m.kind = 2 then ⟨6, m.dst, me, m.site, m.num, 0, m.key, 0, 0, m.ask, false, 0⟩
  else if m.kind = 3 then ⟨7, m.dst, me, m.site, m.num, m.label, m.key, 0, m.version, 0, decide (0 < pk r.rb 4), 0⟩
  else ⟨8, m.dst, me, m.site, m.num, 0, m.key, 0, 0, 0, false, 0⟩
def backNx (C : Cx) (nx : Int) (bs : List JbV) (m : MV) (r : St.RV) : Int := if hrErr C nx bs (backM C.me m r) = 0 then (HearAns C nx bs (backM C.me m r)).next else nx
def backJs (C : Cx) (nx : Int) (bs : List JbV) (m : MV) (r : St.RV) : List JbV := if hrErr C nx bs (backM C.me m r) = 0 then (HearAns C nx bs (backM C.me m r)).js else bs
def BackIs (B : Nat) (w w' : World) (nx : Int) (bs : List JbV) (e : Ending) : Prop := (∃ D, e = .returned D ∧ DkIs B w' D nx bs) ∧ Below w.heap.size w w'
set_option maxRecDepth 100000 in
set_option maxHeartbeats 8000000 in
theorem back_any (s p : Int) (a : Option Addr) (len cap : Nat) (ls : List (Int × Int)) (l me nx : Int) (D : Value) (bs : List JbV) (m : MV) (r : St.RV) (w : World) {B : Nat} (hB : B ≤ w.heap.size) (hl : IsLabs w a len cap ls) (hD : DkIs B w D nx bs) (hT : ∀ U, Below w.heap.size w U → Tables U) (hr : r.ok) :
    Calls Tryd.prog 17 #[.agg #[.int .i64 s, .slice a len cap, .int .i64 p], .int .i64 l, .int .i64 me, D, m.val, r.val] w fun e w' => BackIs B w w' (backNx ⟨s, ls, p, l, me⟩ nx bs m r) (backJs ⟨s, ls, p, l, me⟩ nx bs m r) e := by
  obtain ⟨da, dc, js, ix, more, rfl, hD, hbs⟩ := hD
  obtain ⟨N, eN⟩ : ∃ N, N = bs.length := ⟨_, rfl⟩
  rw [← eN] at hD ⊢
  have HN : Hid (N = bs.length) := eN
  obtain ⟨kind, frm, dst, site, num, label, key, value, version, ask, yes, code⟩ := m
  obtain ⟨rk, ra, rb, rc, rd, re⟩ := r
  obtain ⟨-, bra, brb, -, brd, -⟩ := hr
  simp only [] at bra brb brd
  simp only [MV.val, St.RV.val]
  have HD : Hid (DeskAt w B da N dc js ix more) := hD
  have hPD := fun u => picked_any rd 50 u brd (by omega) (by omega)
  have hPA := fun u => picked_any ra 4 u bra (by omega) (by omega)
  have hPB := fun u => picked_any rb 4 u brb (by omega) (by omega)
  have HHr : Hid (∀ (m : MV) U, Below w.heap.size w U → Calls Tryd.prog 15 #[.agg #[.int .i64 s, .slice a len cap, .int .i64 p], .int .i64 l, .int .i64 me, .agg #[.int .i64 nx, .slice da N dc], m.val] U fun e w' => ∃ (v' : CkV) (ix' : List (Nat × Nat)) (more' : List Rw), e = .returned (.tuple #[v'.turn, .int .i64 (hrErr ⟨s, ls, p, l, me⟩ nx bs m)]) ∧ Live U.heap.size w' v' ix' more' (HearAns ⟨s, ls, p, l, me⟩ nx bs m) ∧ Below U.heap.size U w') := fun m U hU => by
    have h1 := HD.out.below hU
    rw [HN.out] at h1 ⊢
    exact hear_dk s p a len cap ls l me nx da dc bs m U (hl.below hU) h1 hbs (fun V hV => hT V (hU.trans (hV.mono hU.size)))
  have HNx : Hid (∀ (x : MV), backM me ⟨kind, frm, dst, site, num, label, key, value, version, ask, yes, code⟩ ⟨rk, ra, rb, rc, rd, re⟩ = x → backNx ⟨s, ls, p, l, me⟩ nx bs ⟨kind, frm, dst, site, num, label, key, value, version, ask, yes, code⟩ ⟨rk, ra, rb, rc, rd, re⟩ = (if hrErr ⟨s, ls, p, l, me⟩ nx bs x = 0 then (HearAns ⟨s, ls, p, l, me⟩ nx bs x).next else nx) ∧ backJs ⟨s, ls, p, l, me⟩ nx bs ⟨kind, frm, dst, site, num, label, key, value, version, ask, yes, code⟩ ⟨rk, ra, rb, rc, rd, re⟩ = (if hrErr ⟨s, ls, p, l, me⟩ nx bs x = 0 then (HearAns ⟨s, ls, p, l, me⟩ nx bs x).js else bs)) := fun x e => by subst e; exact ⟨rfl, rfl⟩
  have HBs : Hid (js.map JbV.bare = bs) := hbs
  obtain ⟨W, hW⟩ : ∃ W : World, W = ((((w.alloc (.cells #[.int .i64 s, .slice a len cap, .int .i64 p] 25)).alloc (.cells #[.int .i64 nx, .slice da N dc] 29)).alloc (.cells #[.int .i64 kind, .int .i64 frm, .int .i64 dst, .int .i64 site, .int .i64 num, .int .i64 label, .int .i64 key, .int .i64 value, .int .i64 version, .int .i64 ask, .bool yes, .int .i64 code] 58)).alloc (.cells #[.int .i64 rk, .int .i64 ra, .int .i64 rb, .int .i64 rc, .int .i64 rd, .int .i64 re] 55)).alloc (.cells #[.int .i64 0, .slice none 0 0] 29) := ⟨_, rfl⟩
  have bW : Below w.heap.size w W := by rw [hW]; exact (((((Below.refl _ _).alloc (Nat.le_refl _) _).alloc (by simp) _).alloc (by simp; omega) _).alloc (by simp; omega) _).alloc (by simp; omega) _
  have zW : W.heap.size = w.heap.size + 5 := by rw [hW]; simp
  have c0 : W.cell? ⟨w.heap.size, 0, none⟩ = some (.int .i64 s) := by rw [hW]; go_simp
  have c1 : W.cell? ⟨w.heap.size, 1, none⟩ = some (.slice a len cap) := by rw [hW]; go_simp
  have c2 : W.cell? ⟨w.heap.size, 2, none⟩ = some (.int .i64 p) := by rw [hW]; go_simp
  have c3 : W.cell? ⟨w.heap.size + 1, 0, none⟩ = some (.int .i64 nx) := by rw [hW]; go_simp
  have c4 : W.cell? ⟨w.heap.size + 1, 1, none⟩ = some (.slice da N dc) := by rw [hW]; go_simp
  have c5 : W.cell? ⟨w.heap.size + 2, 0, none⟩ = some (.int .i64 kind) := by rw [hW]; go_simp
  have c6 : W.cell? ⟨w.heap.size + 2, 1, none⟩ = some (.int .i64 frm) := by rw [hW]; go_simp
  have c7 : W.cell? ⟨w.heap.size + 2, 2, none⟩ = some (.int .i64 dst) := by rw [hW]; go_simp
  have c8 : W.cell? ⟨w.heap.size + 2, 3, none⟩ = some (.int .i64 site) := by rw [hW]; go_simp
  have c9 : W.cell? ⟨w.heap.size + 2, 4, none⟩ = some (.int .i64 num) := by rw [hW]; go_simp
  have c10 : W.cell? ⟨w.heap.size + 2, 5, none⟩ = some (.int .i64 label) := by rw [hW]; go_simp
  have c11 : W.cell? ⟨w.heap.size + 2, 6, none⟩ = some (.int .i64 key) := by rw [hW]; go_simp
  have c12 : W.cell? ⟨w.heap.size + 2, 7, none⟩ = some (.int .i64 value) := by rw [hW]; go_simp
  have c13 : W.cell? ⟨w.heap.size + 2, 8, none⟩ = some (.int .i64 version) := by rw [hW]; go_simp
  have c14 : W.cell? ⟨w.heap.size + 2, 9, none⟩ = some (.int .i64 ask) := by rw [hW]; go_simp
  have c15 : W.cell? ⟨w.heap.size + 2, 10, none⟩ = some (.bool yes) := by rw [hW]; go_simp
  have c16 : W.cell? ⟨w.heap.size + 2, 11, none⟩ = some (.int .i64 code) := by rw [hW]; go_simp
  have c17 : W.cell? ⟨w.heap.size + 3, 0, none⟩ = some (.int .i64 rk) := by rw [hW]; go_simp
  have c18 : W.cell? ⟨w.heap.size + 3, 1, none⟩ = some (.int .i64 ra) := by rw [hW]; go_simp
  have c19 : W.cell? ⟨w.heap.size + 3, 2, none⟩ = some (.int .i64 rb) := by rw [hW]; go_simp
  have c20 : W.cell? ⟨w.heap.size + 3, 3, none⟩ = some (.int .i64 rc) := by rw [hW]; go_simp
  have c21 : W.cell? ⟨w.heap.size + 3, 4, none⟩ = some (.int .i64 rd) := by rw [hW]; go_simp
  have c22 : W.cell? ⟨w.heap.size + 3, 5, none⟩ = some (.int .i64 re) := by rw [hW]; go_simp
  have KC : Hid (∀ U, Below W.heap.size W U → U.cell? ⟨w.heap.size, 0, none⟩ = some (.int .i64 s) ∧ U.cell? ⟨w.heap.size, 1, none⟩ = some (.slice a len cap) ∧ U.cell? ⟨w.heap.size, 2, none⟩ = some (.int .i64 p) ∧ U.cell? ⟨w.heap.size + 1, 0, none⟩ = some (.int .i64 nx) ∧ U.cell? ⟨w.heap.size + 1, 1, none⟩ = some (.slice da N dc) ∧ U.cell? ⟨w.heap.size + 2, 0, none⟩ = some (.int .i64 kind) ∧ U.cell? ⟨w.heap.size + 2, 1, none⟩ = some (.int .i64 frm) ∧ U.cell? ⟨w.heap.size + 2, 2, none⟩ = some (.int .i64 dst) ∧ U.cell? ⟨w.heap.size + 2, 3, none⟩ = some (.int .i64 site) ∧ U.cell? ⟨w.heap.size + 2, 4, none⟩ = some (.int .i64 num) ∧ U.cell? ⟨w.heap.size + 2, 5, none⟩ = some (.int .i64 label) ∧ U.cell? ⟨w.heap.size + 2, 6, none⟩ = some (.int .i64 key) ∧ U.cell? ⟨w.heap.size + 2, 7, none⟩ = some (.int .i64 value) ∧ U.cell? ⟨w.heap.size + 2, 8, none⟩ = some (.int .i64 version) ∧ U.cell? ⟨w.heap.size + 2, 9, none⟩ = some (.int .i64 ask) ∧ U.cell? ⟨w.heap.size + 2, 10, none⟩ = some (.bool yes) ∧ U.cell? ⟨w.heap.size + 2, 11, none⟩ = some (.int .i64 code) ∧ U.cell? ⟨w.heap.size + 3, 0, none⟩ = some (.int .i64 rk) ∧ U.cell? ⟨w.heap.size + 3, 1, none⟩ = some (.int .i64 ra) ∧ U.cell? ⟨w.heap.size + 3, 2, none⟩ = some (.int .i64 rb) ∧ U.cell? ⟨w.heap.size + 3, 3, none⟩ = some (.int .i64 rc) ∧ U.cell? ⟨w.heap.size + 3, 4, none⟩ = some (.int .i64 rd) ∧ U.cell? ⟨w.heap.size + 3, 5, none⟩ = some (.int .i64 re)) := fun U hU => ⟨(hU.cell (p := ⟨w.heap.size, 0, none⟩) (by show w.heap.size < _; omega)).trans c0, (hU.cell (p := ⟨w.heap.size, 1, none⟩) (by show w.heap.size < _; omega)).trans c1, (hU.cell (p := ⟨w.heap.size, 2, none⟩) (by show w.heap.size < _; omega)).trans c2, (hU.cell (p := ⟨w.heap.size + 1, 0, none⟩) (by show w.heap.size + 1 < _; omega)).trans c3, (hU.cell (p := ⟨w.heap.size + 1, 1, none⟩) (by show w.heap.size + 1 < _; omega)).trans c4, (hU.cell (p := ⟨w.heap.size + 2, 0, none⟩) (by show w.heap.size + 2 < _; omega)).trans c5, (hU.cell (p := ⟨w.heap.size + 2, 1, none⟩) (by show w.heap.size + 2 < _; omega)).trans c6, (hU.cell (p := ⟨w.heap.size + 2, 2, none⟩) (by show w.heap.size + 2 < _; omega)).trans c7, (hU.cell (p := ⟨w.heap.size + 2, 3, none⟩) (by show w.heap.size + 2 < _; omega)).trans c8, (hU.cell (p := ⟨w.heap.size + 2, 4, none⟩) (by show w.heap.size + 2 < _; omega)).trans c9, (hU.cell (p := ⟨w.heap.size + 2, 5, none⟩) (by show w.heap.size + 2 < _; omega)).trans c10, (hU.cell (p := ⟨w.heap.size + 2, 6, none⟩) (by show w.heap.size + 2 < _; omega)).trans c11, (hU.cell (p := ⟨w.heap.size + 2, 7, none⟩) (by show w.heap.size + 2 < _; omega)).trans c12, (hU.cell (p := ⟨w.heap.size + 2, 8, none⟩) (by show w.heap.size + 2 < _; omega)).trans c13, (hU.cell (p := ⟨w.heap.size + 2, 9, none⟩) (by show w.heap.size + 2 < _; omega)).trans c14, (hU.cell (p := ⟨w.heap.size + 2, 10, none⟩) (by show w.heap.size + 2 < _; omega)).trans c15, (hU.cell (p := ⟨w.heap.size + 2, 11, none⟩) (by show w.heap.size + 2 < _; omega)).trans c16, (hU.cell (p := ⟨w.heap.size + 3, 0, none⟩) (by show w.heap.size + 3 < _; omega)).trans c17, (hU.cell (p := ⟨w.heap.size + 3, 1, none⟩) (by show w.heap.size + 3 < _; omega)).trans c18, (hU.cell (p := ⟨w.heap.size + 3, 2, none⟩) (by show w.heap.size + 3 < _; omega)).trans c19, (hU.cell (p := ⟨w.heap.size + 3, 3, none⟩) (by show w.heap.size + 3 < _; omega)).trans c20, (hU.cell (p := ⟨w.heap.size + 3, 4, none⟩) (by show w.heap.size + 3 < _; omega)).trans c21, (hU.cell (p := ⟨w.heap.size + 3, 5, none⟩) (by show w.heap.size + 3 < _; omega)).trans c22⟩
  have bxW : BoxN W (w.heap.size + 4) 2 [.int .i64 0, .slice none 0 0] := by
    rw [hW]
    have := boxn_new (((((w.alloc (.cells #[.int .i64 s, .slice a len cap, .int .i64 p] 25)).alloc (.cells #[.int .i64 nx, .slice da N dc] 29)).alloc (.cells #[.int .i64 kind, .int .i64 frm, .int .i64 dst, .int .i64 site, .int .i64 num, .int .i64 label, .int .i64 key, .int .i64 value, .int .i64 version, .int .i64 ask, .bool yes, .int .i64 code] 58)).alloc (.cells #[.int .i64 rk, .int .i64 ra, .int .i64 rb, .int .i64 rc, .int .i64 rd, .int .i64 re] 55))) #[.int .i64 0, .slice none 0 0] 29 2 rfl
    simpa using this
  have HBox : Hid (∀ U, Below W.heap.size W U → BoxN U (w.heap.size + 4) 2 [.int .i64 0, .slice none 0 0]) := fun U hU => bxW.below hU bxW.lt
  have HZ : Hid (∀ U, Below W.heap.size W U → Below w.heap.size w U ∧ w.heap.size + 5 ≤ U.heap.size) := fun U hU => ⟨bW.trans (hU.mono bW.size), by have := hU.size; omega⟩
  have z0 : w.heap.size < W.heap.size := by omega
  have z1 : w.heap.size + 1 < W.heap.size := by omega
  have z2 : w.heap.size + 2 < W.heap.size := by omega
  have z3 : w.heap.size + 3 < W.heap.size := by omega
  have z4 : w.heap.size + 4 < W.heap.size := by omega
  have HZW : Hid (W.heap.size = w.heap.size + 5) := zW
  clear hD hbs eN bxW zW
  by_cases h1 : kind = 1
  · subst h1
    obtain ⟨PD, eD⟩ : ∃ PD, PD = pk rd 50 := ⟨_, rfl⟩
    obtain ⟨PA, eA⟩ : ∃ PA, PA = pk ra 4 := ⟨_, rfl⟩
    have HPe : Hid (PD = pk rd 50 ∧ PA = pk ra 4) := ⟨eD, eA⟩
    rw [← eD] at hPD
    rw [← eA] at hPA
    clear eD eA
    have tok : True := trivial
    go_enter Tryd.func17, Tryd.ntmps17
    go_upto_region 1 with (fail)
    rw [← hW]
    clear hW
    go_upto_region 18 with ((go_at_call 9; first | (clear tok; refine (hPD _).mono ?_; rintro e u ⟨rfl, hu⟩; rw [hu]; clear hu) | (refine (hPA _).mono ?_; rintro e u ⟨rfl, hu⟩; rw [hu]; clear hu)))
    obtain ⟨X, hX⟩ : ∃ X : World, X = W.alloc (.cells #[.int .i64 5, .int .i64 dst, .int .i64 me, .int .i64 site, .int .i64 num, .int .i64 label, .int .i64 key, .int .i64 PD, .int .i64 PA, .int .i64 ask, .bool false, .int .i64 0] 58) := ⟨_, rfl⟩
    have bX : Below W.heap.size W X := by rw [hX]; exact (Below.refl _ _).alloc (Nat.le_refl _) _
    have zX : W.heap.size < X.heap.size := by rw [hX]; simp
    have xb : BoxN X W.heap.size 12 [.int .i64 5, .int .i64 dst, .int .i64 me, .int .i64 site, .int .i64 num, .int .i64 label, .int .i64 key, .int .i64 PD, .int .i64 PA, .int .i64 ask, .bool false, .int .i64 0] := by
      rw [hX]
      exact boxn_new W #[.int .i64 5, .int .i64 dst, .int .i64 me, .int .i64 site, .int .i64 num, .int .i64 label, .int .i64 key, .int .i64 PD, .int .i64 PA, .int .i64 ask, .bool false, .int .i64 0] 58 12 rfl
    rw [← hX]
    clear hX c0 c1 c2 c3 c4 c5 c6 c7 c8 c9 c10 c11 c12 c13 c14 c15 c16 c17 c18 c19 c20 c21 c22
    obtain ⟨d0, d1, d2, d3, d4, -, -, -, -, -, -, -, -, -, -, -, -, -, -, -, -, -, -⟩ := KC.out X bX
    have x0 : X.cell? ⟨W.heap.size, 0, none⟩ = some (.int .i64 5) := (xb.c 0 (by decide)).1
    have x1 : X.cell? ⟨W.heap.size, 1, none⟩ = some (.int .i64 dst) := (xb.c 1 (by decide)).1
    have x2 : X.cell? ⟨W.heap.size, 2, none⟩ = some (.int .i64 me) := (xb.c 2 (by decide)).1
    have x3 : X.cell? ⟨W.heap.size, 3, none⟩ = some (.int .i64 site) := (xb.c 3 (by decide)).1
    have x4 : X.cell? ⟨W.heap.size, 4, none⟩ = some (.int .i64 num) := (xb.c 4 (by decide)).1
    have x5 : X.cell? ⟨W.heap.size, 5, none⟩ = some (.int .i64 label) := (xb.c 5 (by decide)).1
    have x6 : X.cell? ⟨W.heap.size, 6, none⟩ = some (.int .i64 key) := (xb.c 6 (by decide)).1
    have x7 : X.cell? ⟨W.heap.size, 7, none⟩ = some (.int .i64 PD) := (xb.c 7 (by decide)).1
    have x8 : X.cell? ⟨W.heap.size, 8, none⟩ = some (.int .i64 PA) := (xb.c 8 (by decide)).1
    have x9 : X.cell? ⟨W.heap.size, 9, none⟩ = some (.int .i64 ask) := (xb.c 9 (by decide)).1
    have x10 : X.cell? ⟨W.heap.size, 10, none⟩ = some (.bool false) := (xb.c 10 (by decide)).1
    have x11 : X.cell? ⟨W.heap.size, 11, none⟩ = some (.int .i64 0) := (xb.c 11 (by decide)).1
    have z5 := (HZ.out X bX).2
    have HH : Hid (Calls Tryd.prog 15 #[.agg #[.int .i64 s, .slice a len cap, .int .i64 p], .int .i64 l, .int .i64 me, .agg #[.int .i64 nx, .slice da N dc], .agg #[.int .i64 5, .int .i64 dst, .int .i64 me, .int .i64 site, .int .i64 num, .int .i64 label, .int .i64 key, .int .i64 PD, .int .i64 PA, .int .i64 ask, .bool false, .int .i64 0]] X fun e w' => ∃ (v' : CkV) (ix' : List (Nat × Nat)) (more' : List Rw), e = .returned (.tuple #[v'.turn, .int .i64 (hrErr ⟨s, ls, p, l, me⟩ nx bs ⟨5, dst, me, site, num, label, key, PD, PA, ask, false, 0⟩)]) ∧ Live X.heap.size w' v' ix' more' (HearAns ⟨s, ls, p, l, me⟩ nx bs ⟨5, dst, me, site, num, label, key, PD, PA, ask, false, 0⟩) ∧ Below X.heap.size X w') := HHr.out ⟨5, dst, me, site, num, label, key, PD, PA, ask, false, 0⟩ X (HZ.out X bX).1
    have HNX := HNx.out ⟨5, dst, me, site, num, label, key, PD, PA, ask, false, 0⟩ (by unfold backM; rw [if_pos rfl, HPe.out.1, HPe.out.2])
    have HNY : Hid _ := HNX
    clear HNX HNx HHr
    obtain ⟨E, eE⟩ : ∃ E, E = hrErr ⟨s, ls, p, l, me⟩ nx bs ⟨5, dst, me, site, num, label, key, PD, PA, ask, false, 0⟩ := ⟨_, rfl⟩
    rw [← eE] at HH HNY
    clear eE
    by_cases hE : E = 0
    · subst hE
      have HNZ : Hid (backNx ⟨s, ls, p, l, me⟩ nx bs ⟨1, frm, dst, site, num, label, key, value, version, ask, yes, code⟩ ⟨rk, ra, rb, rc, rd, re⟩ = (HearAns ⟨s, ls, p, l, me⟩ nx bs ⟨5, dst, me, site, num, label, key, PD, PA, ask, false, 0⟩).next ∧ backJs ⟨s, ls, p, l, me⟩ nx bs ⟨1, frm, dst, site, num, label, key, value, version, ask, yes, code⟩ ⟨rk, ra, rb, rc, rd, re⟩ = (HearAns ⟨s, ls, p, l, me⟩ nx bs ⟨5, dst, me, site, num, label, key, PD, PA, ask, false, 0⟩).js) := by
        have h1 := HNY.out
        rw [if_pos rfl, if_pos rfl] at h1
        exact h1
      go_upto_region 19 with (go_at_call 15; refine HH.out.mono ?_; rintro e y ⟨V, iz, mz, rfl, hLv, hby⟩; simp only [CkV.turn])
      obtain ⟨Z, eZ⟩ : ∃ Z : World, Z = y.alloc (.cells #[.int .i64 V.next, .slice V.ja V.jl V.jc, .slice V.ma V.ml V.mc, .slice V.ra V.rl V.rc, .slice V.pa V.pl V.pc, .int .i64 V.sure, .int .i64 V.com] 39) := ⟨_, rfl⟩
      have bZ : Below y.heap.size y Z := by rw [eZ]; exact (Below.refl _ _).alloc (Nat.le_refl _) _
      have tb : BoxN Z y.heap.size 7 [.int .i64 V.next, .slice V.ja V.jl V.jc, .slice V.ma V.ml V.mc, .slice V.ra V.rl V.rc, .slice V.pa V.pl V.pc, .int .i64 V.sure, .int .i64 V.com] := by rw [eZ]; exact boxn_new y #[.int .i64 V.next, .slice V.ja V.jl V.jc, .slice V.ma V.ml V.mc, .slice V.ra V.rl V.rc, .slice V.pa V.pl V.pc, .int .i64 V.sure, .int .i64 V.com] 39 7 rfl
      rw [← eZ]
      have t0 : Z.cell? ⟨y.heap.size, 0, none⟩ = some (.int .i64 V.next) := (tb.c 0 (by decide)).1
      have t1 : Z.cell? ⟨y.heap.size, 1, none⟩ = some (.slice V.ja V.jl V.jc) := (tb.c 1 (by decide)).1
      have zt := tb.lt
      have bXZ := nT hby bZ
      have bWZ := nT bX bXZ
      have rbx := HBox.out Z bWZ
      have r0 : Z.cell? ⟨w.heap.size + 4, 0, none⟩ = some (.int .i64 0) := (rbx.c 0 (by decide)).1
      have r1 : Z.cell? ⟨w.heap.size + 4, 1, none⟩ = some (.slice none 0 0) := (rbx.c 1 (by decide)).1
      have rf0 := (rbx.c 0 (by decide)).2
      have rf1 := (rbx.c 1 (by decide)).2
      have zr := rbx.lt
      have HLv : Hid (Live X.heap.size Z V iz mz (HearAns ⟨s, ls, p, l, me⟩ nx bs ⟨5, dst, me, site, num, label, key, PD, PA, ask, false, 0⟩)) := hLv.below bZ
      clear eZ hLv x0 x1 x2 x3 x4 x5 x6 x7 x8 x9 x10 x11 d0 d1 d2 d3 d4 tb
      go_wp2
      have rbF := (rbx.set 0 (by decide) (.int .i64 V.next)).set 1 (by decide) (.slice V.ja V.jl V.jc)
      have bF : Below w.heap.size w ((Z.setCell ⟨w.heap.size + 4, 0, none⟩ (.int .i64 V.next)).setCell ⟨w.heap.size + 4, 1, none⟩ (.slice V.ja V.jl V.jc)) := ((HZ.out Z bWZ).1.setCell (p := ⟨w.heap.size + 4, 0, none⟩) (by show w.heap.size ≤ w.heap.size + 4; omega) _).setCell (p := ⟨w.heap.size + 4, 1, none⟩) (by show w.heap.size ≤ w.heap.size + 4; omega) _
      have hdk : DkIs B ((Z.setCell ⟨w.heap.size + 4, 0, none⟩ (.int .i64 V.next)).setCell ⟨w.heap.size + 4, 1, none⟩ (.slice V.ja V.jl V.jc)) (.agg #[.int .i64 V.next, .slice V.ja V.jl V.jc]) (backNx ⟨s, ls, p, l, me⟩ nx bs ⟨1, frm, dst, site, num, label, key, value, version, ask, yes, code⟩ ⟨rk, ra, rb, rc, rd, re⟩) (backJs ⟨s, ls, p, l, me⟩ nx bs ⟨1, frm, dst, site, num, label, key, value, version, ask, yes, code⟩ ⟨rk, ra, rb, rc, rd, re⟩) := by
        have h1 := HNZ.out
        rw [h1.1, h1.2]
        have hd := HLv.out.desk
        have hfar := hd.farOld (r := w.heap.size + 4) (by omega)
        have hd2 := ((hd.asideF hfar 0 (.int .i64 V.next)).asideF hfar 1 (.slice V.ja V.jl V.jc)).base (B := B) (by omega)
        refine ⟨V.ja, V.jc, V.js, iz, mz, by rw [HLv.out.nums.1, HLv.out.js.2], ?_, HLv.out.js.1⟩
        rw [← HLv.out.js.2]
        exact hd2
      obtain ⟨Y, eY⟩ : ∃ Y, Y = (Z.setCell ⟨w.heap.size + 4, 0, none⟩ (.int .i64 V.next)).setCell ⟨w.heap.size + 4, 1, none⟩ (.slice V.ja V.jl V.jc) := ⟨_, rfl⟩
      rw [← eY] at rbF bF hdk ⊢
      clear eY
      have k0 : Y.cell? ⟨w.heap.size + 4, 0, none⟩ = some (.int .i64 V.next) := (rbF.c 0 (by decide)).1
      have k1 : Y.cell? ⟨w.heap.size + 4, 1, none⟩ = some (.slice V.ja V.jl V.jc) := (rbF.c 1 (by decide)).1
      exact bodyPost_ret (v := .agg #[.int .i64 V.next, .slice V.ja V.jl V.jc]) (by simp [results, Tryd.results17, go_sem, k0, k1]) rfl ⟨⟨_, rfl, hdk⟩, bF⟩
    · have hE' : (E == 0) = false := by simpa using hE
      have HNZ : Hid (backNx ⟨s, ls, p, l, me⟩ nx bs ⟨1, frm, dst, site, num, label, key, value, version, ask, yes, code⟩ ⟨rk, ra, rb, rc, rd, re⟩ = nx ∧ backJs ⟨s, ls, p, l, me⟩ nx bs ⟨1, frm, dst, site, num, label, key, value, version, ask, yes, code⟩ ⟨rk, ra, rb, rc, rd, re⟩ = bs) := by
        have h1 := HNY.out
        rw [if_neg hE, if_neg hE] at h1
        exact h1
      go_upto_region 19 with (go_at_call 15; refine HH.out.mono ?_; rintro e y ⟨V, iz, mz, rfl, hLv, hby⟩; simp only [CkV.turn])
      obtain ⟨Z, eZ⟩ : ∃ Z : World, Z = y.alloc (.cells #[.int .i64 V.next, .slice V.ja V.jl V.jc, .slice V.ma V.ml V.mc, .slice V.ra V.rl V.rc, .slice V.pa V.pl V.pc, .int .i64 V.sure, .int .i64 V.com] 39) := ⟨_, rfl⟩
      have bZ : Below y.heap.size y Z := by rw [eZ]; exact (Below.refl _ _).alloc (Nat.le_refl _) _
      rw [← eZ]
      have bXZ := nT hby bZ
      have bWZ := nT bX bXZ
      have rbx := HBox.out Z bWZ
      have r0 : Z.cell? ⟨w.heap.size + 4, 0, none⟩ = some (.int .i64 0) := (rbx.c 0 (by decide)).1
      have r1 : Z.cell? ⟨w.heap.size + 4, 1, none⟩ = some (.slice none 0 0) := (rbx.c 1 (by decide)).1
      have rf0 := (rbx.c 0 (by decide)).2
      have rf1 := (rbx.c 1 (by decide)).2
      have zr := rbx.lt
      clear eZ hLv x0 x1 x2 x3 x4 x5 x6 x7 x8 x9 x10 x11 d0 d1 d2 d3 d4
      obtain ⟨-, -, -, d3, d4, -, -, -, -, -, -, -, -, -, -, -, -, -, -, -, -, -, -⟩ := KC.out Z bWZ
      have z5Z := (HZ.out Z bWZ).2
      go_wp2
      have rbF := (rbx.set 0 (by decide) (.int .i64 nx)).set 1 (by decide) (.slice da N dc)
      have bF : Below w.heap.size w ((Z.setCell ⟨w.heap.size + 4, 0, none⟩ (.int .i64 nx)).setCell ⟨w.heap.size + 4, 1, none⟩ (.slice da N dc)) := ((HZ.out Z bWZ).1.setCell (p := ⟨w.heap.size + 4, 0, none⟩) (by show w.heap.size ≤ w.heap.size + 4; omega) _).setCell (p := ⟨w.heap.size + 4, 1, none⟩) (by show w.heap.size ≤ w.heap.size + 4; omega) _
      have hdk : DkIs B ((Z.setCell ⟨w.heap.size + 4, 0, none⟩ (.int .i64 nx)).setCell ⟨w.heap.size + 4, 1, none⟩ (.slice da N dc)) (.agg #[.int .i64 nx, .slice da N dc]) (backNx ⟨s, ls, p, l, me⟩ nx bs ⟨1, frm, dst, site, num, label, key, value, version, ask, yes, code⟩ ⟨rk, ra, rb, rc, rd, re⟩) (backJs ⟨s, ls, p, l, me⟩ nx bs ⟨1, frm, dst, site, num, label, key, value, version, ask, yes, code⟩ ⟨rk, ra, rb, rc, rd, re⟩) := by
        have h1 := HNZ.out
        rw [h1.1, h1.2]
        have hfar := HD.out.farNew (r := w.heap.size + 4) (by omega)
        have hd2 := ((HD.out.below (HZ.out Z bWZ).1).asideF hfar 0 (.int .i64 nx)).asideF hfar 1 (.slice da N dc)
        refine ⟨da, dc, js, ix, more, by rw [HN.out], ?_, HBs.out⟩
        rw [HN.out] at hd2
        rw [HN.out]
        exact hd2
      obtain ⟨Y, eY⟩ : ∃ Y, Y = (Z.setCell ⟨w.heap.size + 4, 0, none⟩ (.int .i64 nx)).setCell ⟨w.heap.size + 4, 1, none⟩ (.slice da N dc) := ⟨_, rfl⟩
      rw [← eY] at rbF bF hdk ⊢
      clear eY
      have k0 : Y.cell? ⟨w.heap.size + 4, 0, none⟩ = some (.int .i64 nx) := (rbF.c 0 (by decide)).1
      have k1 : Y.cell? ⟨w.heap.size + 4, 1, none⟩ = some (.slice da N dc) := (rbF.c 1 (by decide)).1
      exact bodyPost_ret (v := .agg #[.int .i64 nx, .slice da N dc]) (by simp [results, Tryd.results17, go_sem, k0, k1]) rfl ⟨⟨_, rfl, hdk⟩, bF⟩
  · have h1' : (kind == 1) = false := by simpa using h1
    by_cases h2 : kind = 2
    · subst h2
      go_enter Tryd.func17, Tryd.ntmps17
      go_upto_region 1 with (fail)
      rw [← hW]
      clear hW
      go_upto_region 18 with (fail)
      obtain ⟨X, hX⟩ : ∃ X : World, X = W.alloc (.cells #[.int .i64 6, .int .i64 dst, .int .i64 me, .int .i64 site, .int .i64 num, .int .i64 0, .int .i64 key, .int .i64 0, .int .i64 0, .int .i64 ask, .bool false, .int .i64 0] 58) := ⟨_, rfl⟩
      have bX : Below W.heap.size W X := by rw [hX]; exact (Below.refl _ _).alloc (Nat.le_refl _) _
      have zX : W.heap.size < X.heap.size := by rw [hX]; simp
      have xb : BoxN X W.heap.size 12 [.int .i64 6, .int .i64 dst, .int .i64 me, .int .i64 site, .int .i64 num, .int .i64 0, .int .i64 key, .int .i64 0, .int .i64 0, .int .i64 ask, .bool false, .int .i64 0] := by
        rw [hX]
        exact boxn_new W #[.int .i64 6, .int .i64 dst, .int .i64 me, .int .i64 site, .int .i64 num, .int .i64 0, .int .i64 key, .int .i64 0, .int .i64 0, .int .i64 ask, .bool false, .int .i64 0] 58 12 rfl
      rw [← hX]
      clear hX c0 c1 c2 c3 c4 c5 c6 c7 c8 c9 c10 c11 c12 c13 c14 c15 c16 c17 c18 c19 c20 c21 c22
      obtain ⟨d0, d1, d2, d3, d4, -, -, -, -, -, -, -, -, -, -, -, -, -, -, -, -, -, -⟩ := KC.out X bX
      have x0 : X.cell? ⟨W.heap.size, 0, none⟩ = some (.int .i64 6) := (xb.c 0 (by decide)).1
      have x1 : X.cell? ⟨W.heap.size, 1, none⟩ = some (.int .i64 dst) := (xb.c 1 (by decide)).1
      have x2 : X.cell? ⟨W.heap.size, 2, none⟩ = some (.int .i64 me) := (xb.c 2 (by decide)).1
      have x3 : X.cell? ⟨W.heap.size, 3, none⟩ = some (.int .i64 site) := (xb.c 3 (by decide)).1
      have x4 : X.cell? ⟨W.heap.size, 4, none⟩ = some (.int .i64 num) := (xb.c 4 (by decide)).1
      have x5 : X.cell? ⟨W.heap.size, 5, none⟩ = some (.int .i64 0) := (xb.c 5 (by decide)).1
      have x6 : X.cell? ⟨W.heap.size, 6, none⟩ = some (.int .i64 key) := (xb.c 6 (by decide)).1
      have x7 : X.cell? ⟨W.heap.size, 7, none⟩ = some (.int .i64 0) := (xb.c 7 (by decide)).1
      have x8 : X.cell? ⟨W.heap.size, 8, none⟩ = some (.int .i64 0) := (xb.c 8 (by decide)).1
      have x9 : X.cell? ⟨W.heap.size, 9, none⟩ = some (.int .i64 ask) := (xb.c 9 (by decide)).1
      have x10 : X.cell? ⟨W.heap.size, 10, none⟩ = some (.bool false) := (xb.c 10 (by decide)).1
      have x11 : X.cell? ⟨W.heap.size, 11, none⟩ = some (.int .i64 0) := (xb.c 11 (by decide)).1
      have z5 := (HZ.out X bX).2
      have HH : Hid (Calls Tryd.prog 15 #[.agg #[.int .i64 s, .slice a len cap, .int .i64 p], .int .i64 l, .int .i64 me, .agg #[.int .i64 nx, .slice da N dc], .agg #[.int .i64 6, .int .i64 dst, .int .i64 me, .int .i64 site, .int .i64 num, .int .i64 0, .int .i64 key, .int .i64 0, .int .i64 0, .int .i64 ask, .bool false, .int .i64 0]] X fun e w' => ∃ (v' : CkV) (ix' : List (Nat × Nat)) (more' : List Rw), e = .returned (.tuple #[v'.turn, .int .i64 (hrErr ⟨s, ls, p, l, me⟩ nx bs ⟨6, dst, me, site, num, 0, key, 0, 0, ask, false, 0⟩)]) ∧ Live X.heap.size w' v' ix' more' (HearAns ⟨s, ls, p, l, me⟩ nx bs ⟨6, dst, me, site, num, 0, key, 0, 0, ask, false, 0⟩) ∧ Below X.heap.size X w') := HHr.out ⟨6, dst, me, site, num, 0, key, 0, 0, ask, false, 0⟩ X (HZ.out X bX).1
      have HNX := HNx.out ⟨6, dst, me, site, num, 0, key, 0, 0, ask, false, 0⟩ (by unfold backM; rw [if_neg (by simp), if_pos rfl])
      have HNY : Hid _ := HNX
      clear HNX HNx HHr
      obtain ⟨E, eE⟩ : ∃ E, E = hrErr ⟨s, ls, p, l, me⟩ nx bs ⟨6, dst, me, site, num, 0, key, 0, 0, ask, false, 0⟩ := ⟨_, rfl⟩
      rw [← eE] at HH HNY
      clear eE
      by_cases hE : E = 0
      · subst hE
        have HNZ : Hid (backNx ⟨s, ls, p, l, me⟩ nx bs ⟨2, frm, dst, site, num, label, key, value, version, ask, yes, code⟩ ⟨rk, ra, rb, rc, rd, re⟩ = (HearAns ⟨s, ls, p, l, me⟩ nx bs ⟨6, dst, me, site, num, 0, key, 0, 0, ask, false, 0⟩).next ∧ backJs ⟨s, ls, p, l, me⟩ nx bs ⟨2, frm, dst, site, num, label, key, value, version, ask, yes, code⟩ ⟨rk, ra, rb, rc, rd, re⟩ = (HearAns ⟨s, ls, p, l, me⟩ nx bs ⟨6, dst, me, site, num, 0, key, 0, 0, ask, false, 0⟩).js) := by
          have h1 := HNY.out
          rw [if_pos rfl, if_pos rfl] at h1
          exact h1
        go_upto_region 19 with (go_at_call 15; refine HH.out.mono ?_; rintro e y ⟨V, iz, mz, rfl, hLv, hby⟩; simp only [CkV.turn])
        obtain ⟨Z, eZ⟩ : ∃ Z : World, Z = y.alloc (.cells #[.int .i64 V.next, .slice V.ja V.jl V.jc, .slice V.ma V.ml V.mc, .slice V.ra V.rl V.rc, .slice V.pa V.pl V.pc, .int .i64 V.sure, .int .i64 V.com] 39) := ⟨_, rfl⟩
        have bZ : Below y.heap.size y Z := by rw [eZ]; exact (Below.refl _ _).alloc (Nat.le_refl _) _
        have tb : BoxN Z y.heap.size 7 [.int .i64 V.next, .slice V.ja V.jl V.jc, .slice V.ma V.ml V.mc, .slice V.ra V.rl V.rc, .slice V.pa V.pl V.pc, .int .i64 V.sure, .int .i64 V.com] := by rw [eZ]; exact boxn_new y #[.int .i64 V.next, .slice V.ja V.jl V.jc, .slice V.ma V.ml V.mc, .slice V.ra V.rl V.rc, .slice V.pa V.pl V.pc, .int .i64 V.sure, .int .i64 V.com] 39 7 rfl
        rw [← eZ]
        have t0 : Z.cell? ⟨y.heap.size, 0, none⟩ = some (.int .i64 V.next) := (tb.c 0 (by decide)).1
        have t1 : Z.cell? ⟨y.heap.size, 1, none⟩ = some (.slice V.ja V.jl V.jc) := (tb.c 1 (by decide)).1
        have zt := tb.lt
        have bXZ := nT hby bZ
        have bWZ := nT bX bXZ
        have rbx := HBox.out Z bWZ
        have r0 : Z.cell? ⟨w.heap.size + 4, 0, none⟩ = some (.int .i64 0) := (rbx.c 0 (by decide)).1
        have r1 : Z.cell? ⟨w.heap.size + 4, 1, none⟩ = some (.slice none 0 0) := (rbx.c 1 (by decide)).1
        have rf0 := (rbx.c 0 (by decide)).2
        have rf1 := (rbx.c 1 (by decide)).2
        have zr := rbx.lt
        have HLv : Hid (Live X.heap.size Z V iz mz (HearAns ⟨s, ls, p, l, me⟩ nx bs ⟨6, dst, me, site, num, 0, key, 0, 0, ask, false, 0⟩)) := hLv.below bZ
        clear eZ hLv x0 x1 x2 x3 x4 x5 x6 x7 x8 x9 x10 x11 d0 d1 d2 d3 d4 tb
        go_wp2
        have rbF := (rbx.set 0 (by decide) (.int .i64 V.next)).set 1 (by decide) (.slice V.ja V.jl V.jc)
        have bF : Below w.heap.size w ((Z.setCell ⟨w.heap.size + 4, 0, none⟩ (.int .i64 V.next)).setCell ⟨w.heap.size + 4, 1, none⟩ (.slice V.ja V.jl V.jc)) := ((HZ.out Z bWZ).1.setCell (p := ⟨w.heap.size + 4, 0, none⟩) (by show w.heap.size ≤ w.heap.size + 4; omega) _).setCell (p := ⟨w.heap.size + 4, 1, none⟩) (by show w.heap.size ≤ w.heap.size + 4; omega) _
        have hdk : DkIs B ((Z.setCell ⟨w.heap.size + 4, 0, none⟩ (.int .i64 V.next)).setCell ⟨w.heap.size + 4, 1, none⟩ (.slice V.ja V.jl V.jc)) (.agg #[.int .i64 V.next, .slice V.ja V.jl V.jc]) (backNx ⟨s, ls, p, l, me⟩ nx bs ⟨2, frm, dst, site, num, label, key, value, version, ask, yes, code⟩ ⟨rk, ra, rb, rc, rd, re⟩) (backJs ⟨s, ls, p, l, me⟩ nx bs ⟨2, frm, dst, site, num, label, key, value, version, ask, yes, code⟩ ⟨rk, ra, rb, rc, rd, re⟩) := by
          have h1 := HNZ.out
          rw [h1.1, h1.2]
          have hd := HLv.out.desk
          have hfar := hd.farOld (r := w.heap.size + 4) (by omega)
          have hd2 := ((hd.asideF hfar 0 (.int .i64 V.next)).asideF hfar 1 (.slice V.ja V.jl V.jc)).base (B := B) (by omega)
          refine ⟨V.ja, V.jc, V.js, iz, mz, by rw [HLv.out.nums.1, HLv.out.js.2], ?_, HLv.out.js.1⟩
          rw [← HLv.out.js.2]
          exact hd2
        obtain ⟨Y, eY⟩ : ∃ Y, Y = (Z.setCell ⟨w.heap.size + 4, 0, none⟩ (.int .i64 V.next)).setCell ⟨w.heap.size + 4, 1, none⟩ (.slice V.ja V.jl V.jc) := ⟨_, rfl⟩
        rw [← eY] at rbF bF hdk ⊢
        clear eY
        have k0 : Y.cell? ⟨w.heap.size + 4, 0, none⟩ = some (.int .i64 V.next) := (rbF.c 0 (by decide)).1
        have k1 : Y.cell? ⟨w.heap.size + 4, 1, none⟩ = some (.slice V.ja V.jl V.jc) := (rbF.c 1 (by decide)).1
        exact bodyPost_ret (v := .agg #[.int .i64 V.next, .slice V.ja V.jl V.jc]) (by simp [results, Tryd.results17, go_sem, k0, k1]) rfl ⟨⟨_, rfl, hdk⟩, bF⟩
      · have hE' : (E == 0) = false := by simpa using hE
        have HNZ : Hid (backNx ⟨s, ls, p, l, me⟩ nx bs ⟨2, frm, dst, site, num, label, key, value, version, ask, yes, code⟩ ⟨rk, ra, rb, rc, rd, re⟩ = nx ∧ backJs ⟨s, ls, p, l, me⟩ nx bs ⟨2, frm, dst, site, num, label, key, value, version, ask, yes, code⟩ ⟨rk, ra, rb, rc, rd, re⟩ = bs) := by
          have h1 := HNY.out
          rw [if_neg hE, if_neg hE] at h1
          exact h1
        go_upto_region 19 with (go_at_call 15; refine HH.out.mono ?_; rintro e y ⟨V, iz, mz, rfl, hLv, hby⟩; simp only [CkV.turn])
        obtain ⟨Z, eZ⟩ : ∃ Z : World, Z = y.alloc (.cells #[.int .i64 V.next, .slice V.ja V.jl V.jc, .slice V.ma V.ml V.mc, .slice V.ra V.rl V.rc, .slice V.pa V.pl V.pc, .int .i64 V.sure, .int .i64 V.com] 39) := ⟨_, rfl⟩
        have bZ : Below y.heap.size y Z := by rw [eZ]; exact (Below.refl _ _).alloc (Nat.le_refl _) _
        rw [← eZ]
        have bXZ := nT hby bZ
        have bWZ := nT bX bXZ
        have rbx := HBox.out Z bWZ
        have r0 : Z.cell? ⟨w.heap.size + 4, 0, none⟩ = some (.int .i64 0) := (rbx.c 0 (by decide)).1
        have r1 : Z.cell? ⟨w.heap.size + 4, 1, none⟩ = some (.slice none 0 0) := (rbx.c 1 (by decide)).1
        have rf0 := (rbx.c 0 (by decide)).2
        have rf1 := (rbx.c 1 (by decide)).2
        have zr := rbx.lt
        clear eZ hLv x0 x1 x2 x3 x4 x5 x6 x7 x8 x9 x10 x11 d0 d1 d2 d3 d4
        obtain ⟨-, -, -, d3, d4, -, -, -, -, -, -, -, -, -, -, -, -, -, -, -, -, -, -⟩ := KC.out Z bWZ
        have z5Z := (HZ.out Z bWZ).2
        go_wp2
        have rbF := (rbx.set 0 (by decide) (.int .i64 nx)).set 1 (by decide) (.slice da N dc)
        have bF : Below w.heap.size w ((Z.setCell ⟨w.heap.size + 4, 0, none⟩ (.int .i64 nx)).setCell ⟨w.heap.size + 4, 1, none⟩ (.slice da N dc)) := ((HZ.out Z bWZ).1.setCell (p := ⟨w.heap.size + 4, 0, none⟩) (by show w.heap.size ≤ w.heap.size + 4; omega) _).setCell (p := ⟨w.heap.size + 4, 1, none⟩) (by show w.heap.size ≤ w.heap.size + 4; omega) _
        have hdk : DkIs B ((Z.setCell ⟨w.heap.size + 4, 0, none⟩ (.int .i64 nx)).setCell ⟨w.heap.size + 4, 1, none⟩ (.slice da N dc)) (.agg #[.int .i64 nx, .slice da N dc]) (backNx ⟨s, ls, p, l, me⟩ nx bs ⟨2, frm, dst, site, num, label, key, value, version, ask, yes, code⟩ ⟨rk, ra, rb, rc, rd, re⟩) (backJs ⟨s, ls, p, l, me⟩ nx bs ⟨2, frm, dst, site, num, label, key, value, version, ask, yes, code⟩ ⟨rk, ra, rb, rc, rd, re⟩) := by
          have h1 := HNZ.out
          rw [h1.1, h1.2]
          have hfar := HD.out.farNew (r := w.heap.size + 4) (by omega)
          have hd2 := ((HD.out.below (HZ.out Z bWZ).1).asideF hfar 0 (.int .i64 nx)).asideF hfar 1 (.slice da N dc)
          refine ⟨da, dc, js, ix, more, by rw [HN.out], ?_, HBs.out⟩
          rw [HN.out] at hd2
          rw [HN.out]
          exact hd2
        obtain ⟨Y, eY⟩ : ∃ Y, Y = (Z.setCell ⟨w.heap.size + 4, 0, none⟩ (.int .i64 nx)).setCell ⟨w.heap.size + 4, 1, none⟩ (.slice da N dc) := ⟨_, rfl⟩
        rw [← eY] at rbF bF hdk ⊢
        clear eY
        have k0 : Y.cell? ⟨w.heap.size + 4, 0, none⟩ = some (.int .i64 nx) := (rbF.c 0 (by decide)).1
        have k1 : Y.cell? ⟨w.heap.size + 4, 1, none⟩ = some (.slice da N dc) := (rbF.c 1 (by decide)).1
        exact bodyPost_ret (v := .agg #[.int .i64 nx, .slice da N dc]) (by simp [results, Tryd.results17, go_sem, k0, k1]) rfl ⟨⟨_, rfl, hdk⟩, bF⟩
    · have h2' : (kind == 2) = false := by simpa using h2
      by_cases h3 : kind = 3
      · subst h3
        obtain ⟨PQ, eB⟩ : ∃ PQ, PQ = pk rb 4 := ⟨_, rfl⟩
        obtain ⟨PB, ePB⟩ : ∃ PB : Bool, PB = decide (0 < PQ) := ⟨_, rfl⟩
        have HPe : Hid (PB = decide (0 < pk rb 4)) := by rw [← eB]; exact ePB
        rw [← eB] at hPB
        have hPBs := ePB.symm
        clear eB ePB
        go_enter Tryd.func17, Tryd.ntmps17
        go_upto_region 1 with (fail)
        rw [← hW]
        clear hW
        go_upto_region 18 with (go_at_call 9; refine (hPB _).mono ?_; rintro e u ⟨rfl, hu⟩; rw [hu]; clear hu)
        obtain ⟨X, hX⟩ : ∃ X : World, X = W.alloc (.cells #[.int .i64 7, .int .i64 dst, .int .i64 me, .int .i64 site, .int .i64 num, .int .i64 label, .int .i64 key, .int .i64 0, .int .i64 version, .int .i64 0, .bool PB, .int .i64 0] 58) := ⟨_, rfl⟩
        have bX : Below W.heap.size W X := by rw [hX]; exact (Below.refl _ _).alloc (Nat.le_refl _) _
        have zX : W.heap.size < X.heap.size := by rw [hX]; simp
        have xb : BoxN X W.heap.size 12 [.int .i64 7, .int .i64 dst, .int .i64 me, .int .i64 site, .int .i64 num, .int .i64 label, .int .i64 key, .int .i64 0, .int .i64 version, .int .i64 0, .bool PB, .int .i64 0] := by
          rw [hX]
          exact boxn_new W #[.int .i64 7, .int .i64 dst, .int .i64 me, .int .i64 site, .int .i64 num, .int .i64 label, .int .i64 key, .int .i64 0, .int .i64 version, .int .i64 0, .bool PB, .int .i64 0] 58 12 rfl
        rw [← hX]
        clear hX c0 c1 c2 c3 c4 c5 c6 c7 c8 c9 c10 c11 c12 c13 c14 c15 c16 c17 c18 c19 c20 c21 c22
        obtain ⟨d0, d1, d2, d3, d4, -, -, -, -, -, -, -, -, -, -, -, -, -, -, -, -, -, -⟩ := KC.out X bX
        have x0 : X.cell? ⟨W.heap.size, 0, none⟩ = some (.int .i64 7) := (xb.c 0 (by decide)).1
        have x1 : X.cell? ⟨W.heap.size, 1, none⟩ = some (.int .i64 dst) := (xb.c 1 (by decide)).1
        have x2 : X.cell? ⟨W.heap.size, 2, none⟩ = some (.int .i64 me) := (xb.c 2 (by decide)).1
        have x3 : X.cell? ⟨W.heap.size, 3, none⟩ = some (.int .i64 site) := (xb.c 3 (by decide)).1
        have x4 : X.cell? ⟨W.heap.size, 4, none⟩ = some (.int .i64 num) := (xb.c 4 (by decide)).1
        have x5 : X.cell? ⟨W.heap.size, 5, none⟩ = some (.int .i64 label) := (xb.c 5 (by decide)).1
        have x6 : X.cell? ⟨W.heap.size, 6, none⟩ = some (.int .i64 key) := (xb.c 6 (by decide)).1
        have x7 : X.cell? ⟨W.heap.size, 7, none⟩ = some (.int .i64 0) := (xb.c 7 (by decide)).1
        have x8 : X.cell? ⟨W.heap.size, 8, none⟩ = some (.int .i64 version) := (xb.c 8 (by decide)).1
        have x9 : X.cell? ⟨W.heap.size, 9, none⟩ = some (.int .i64 0) := (xb.c 9 (by decide)).1
        have x10 : X.cell? ⟨W.heap.size, 10, none⟩ = some (.bool PB) := (xb.c 10 (by decide)).1
        have x11 : X.cell? ⟨W.heap.size, 11, none⟩ = some (.int .i64 0) := (xb.c 11 (by decide)).1
        have z5 := (HZ.out X bX).2
        have HH : Hid (Calls Tryd.prog 15 #[.agg #[.int .i64 s, .slice a len cap, .int .i64 p], .int .i64 l, .int .i64 me, .agg #[.int .i64 nx, .slice da N dc], .agg #[.int .i64 7, .int .i64 dst, .int .i64 me, .int .i64 site, .int .i64 num, .int .i64 label, .int .i64 key, .int .i64 0, .int .i64 version, .int .i64 0, .bool PB, .int .i64 0]] X fun e w' => ∃ (v' : CkV) (ix' : List (Nat × Nat)) (more' : List Rw), e = .returned (.tuple #[v'.turn, .int .i64 (hrErr ⟨s, ls, p, l, me⟩ nx bs ⟨7, dst, me, site, num, label, key, 0, version, 0, PB, 0⟩)]) ∧ Live X.heap.size w' v' ix' more' (HearAns ⟨s, ls, p, l, me⟩ nx bs ⟨7, dst, me, site, num, label, key, 0, version, 0, PB, 0⟩) ∧ Below X.heap.size X w') := HHr.out ⟨7, dst, me, site, num, label, key, 0, version, 0, PB, 0⟩ X (HZ.out X bX).1
        have HNX := HNx.out ⟨7, dst, me, site, num, label, key, 0, version, 0, PB, 0⟩ (by unfold backM; rw [if_neg (by simp), if_neg (by simp), if_pos rfl, HPe.out])
        have HNY : Hid _ := HNX
        clear HNX HNx HHr
        obtain ⟨E, eE⟩ : ∃ E, E = hrErr ⟨s, ls, p, l, me⟩ nx bs ⟨7, dst, me, site, num, label, key, 0, version, 0, PB, 0⟩ := ⟨_, rfl⟩
        rw [← eE] at HH HNY
        clear eE
        by_cases hE : E = 0
        · subst hE
          have HNZ : Hid (backNx ⟨s, ls, p, l, me⟩ nx bs ⟨3, frm, dst, site, num, label, key, value, version, ask, yes, code⟩ ⟨rk, ra, rb, rc, rd, re⟩ = (HearAns ⟨s, ls, p, l, me⟩ nx bs ⟨7, dst, me, site, num, label, key, 0, version, 0, PB, 0⟩).next ∧ backJs ⟨s, ls, p, l, me⟩ nx bs ⟨3, frm, dst, site, num, label, key, value, version, ask, yes, code⟩ ⟨rk, ra, rb, rc, rd, re⟩ = (HearAns ⟨s, ls, p, l, me⟩ nx bs ⟨7, dst, me, site, num, label, key, 0, version, 0, PB, 0⟩).js) := by
            have h1 := HNY.out
            rw [if_pos rfl, if_pos rfl] at h1
            exact h1
          go_upto_region 19 with (go_at_call 15; refine HH.out.mono ?_; rintro e y ⟨V, iz, mz, rfl, hLv, hby⟩; simp only [CkV.turn])
          obtain ⟨Z, eZ⟩ : ∃ Z : World, Z = y.alloc (.cells #[.int .i64 V.next, .slice V.ja V.jl V.jc, .slice V.ma V.ml V.mc, .slice V.ra V.rl V.rc, .slice V.pa V.pl V.pc, .int .i64 V.sure, .int .i64 V.com] 39) := ⟨_, rfl⟩
          have bZ : Below y.heap.size y Z := by rw [eZ]; exact (Below.refl _ _).alloc (Nat.le_refl _) _
          have tb : BoxN Z y.heap.size 7 [.int .i64 V.next, .slice V.ja V.jl V.jc, .slice V.ma V.ml V.mc, .slice V.ra V.rl V.rc, .slice V.pa V.pl V.pc, .int .i64 V.sure, .int .i64 V.com] := by rw [eZ]; exact boxn_new y #[.int .i64 V.next, .slice V.ja V.jl V.jc, .slice V.ma V.ml V.mc, .slice V.ra V.rl V.rc, .slice V.pa V.pl V.pc, .int .i64 V.sure, .int .i64 V.com] 39 7 rfl
          rw [← eZ]
          have t0 : Z.cell? ⟨y.heap.size, 0, none⟩ = some (.int .i64 V.next) := (tb.c 0 (by decide)).1
          have t1 : Z.cell? ⟨y.heap.size, 1, none⟩ = some (.slice V.ja V.jl V.jc) := (tb.c 1 (by decide)).1
          have zt := tb.lt
          have bXZ := nT hby bZ
          have bWZ := nT bX bXZ
          have rbx := HBox.out Z bWZ
          have r0 : Z.cell? ⟨w.heap.size + 4, 0, none⟩ = some (.int .i64 0) := (rbx.c 0 (by decide)).1
          have r1 : Z.cell? ⟨w.heap.size + 4, 1, none⟩ = some (.slice none 0 0) := (rbx.c 1 (by decide)).1
          have rf0 := (rbx.c 0 (by decide)).2
          have rf1 := (rbx.c 1 (by decide)).2
          have zr := rbx.lt
          have HLv : Hid (Live X.heap.size Z V iz mz (HearAns ⟨s, ls, p, l, me⟩ nx bs ⟨7, dst, me, site, num, label, key, 0, version, 0, PB, 0⟩)) := hLv.below bZ
          clear eZ hLv x0 x1 x2 x3 x4 x5 x6 x7 x8 x9 x10 x11 d0 d1 d2 d3 d4 tb
          go_wp2
          have rbF := (rbx.set 0 (by decide) (.int .i64 V.next)).set 1 (by decide) (.slice V.ja V.jl V.jc)
          have bF : Below w.heap.size w ((Z.setCell ⟨w.heap.size + 4, 0, none⟩ (.int .i64 V.next)).setCell ⟨w.heap.size + 4, 1, none⟩ (.slice V.ja V.jl V.jc)) := ((HZ.out Z bWZ).1.setCell (p := ⟨w.heap.size + 4, 0, none⟩) (by show w.heap.size ≤ w.heap.size + 4; omega) _).setCell (p := ⟨w.heap.size + 4, 1, none⟩) (by show w.heap.size ≤ w.heap.size + 4; omega) _
          have hdk : DkIs B ((Z.setCell ⟨w.heap.size + 4, 0, none⟩ (.int .i64 V.next)).setCell ⟨w.heap.size + 4, 1, none⟩ (.slice V.ja V.jl V.jc)) (.agg #[.int .i64 V.next, .slice V.ja V.jl V.jc]) (backNx ⟨s, ls, p, l, me⟩ nx bs ⟨3, frm, dst, site, num, label, key, value, version, ask, yes, code⟩ ⟨rk, ra, rb, rc, rd, re⟩) (backJs ⟨s, ls, p, l, me⟩ nx bs ⟨3, frm, dst, site, num, label, key, value, version, ask, yes, code⟩ ⟨rk, ra, rb, rc, rd, re⟩) := by
            have h1 := HNZ.out
            rw [h1.1, h1.2]
            have hd := HLv.out.desk
            have hfar := hd.farOld (r := w.heap.size + 4) (by omega)
            have hd2 := ((hd.asideF hfar 0 (.int .i64 V.next)).asideF hfar 1 (.slice V.ja V.jl V.jc)).base (B := B) (by omega)
            refine ⟨V.ja, V.jc, V.js, iz, mz, by rw [HLv.out.nums.1, HLv.out.js.2], ?_, HLv.out.js.1⟩
            rw [← HLv.out.js.2]
            exact hd2
          obtain ⟨Y, eY⟩ : ∃ Y, Y = (Z.setCell ⟨w.heap.size + 4, 0, none⟩ (.int .i64 V.next)).setCell ⟨w.heap.size + 4, 1, none⟩ (.slice V.ja V.jl V.jc) := ⟨_, rfl⟩
          rw [← eY] at rbF bF hdk ⊢
          clear eY
          have k0 : Y.cell? ⟨w.heap.size + 4, 0, none⟩ = some (.int .i64 V.next) := (rbF.c 0 (by decide)).1
          have k1 : Y.cell? ⟨w.heap.size + 4, 1, none⟩ = some (.slice V.ja V.jl V.jc) := (rbF.c 1 (by decide)).1
          exact bodyPost_ret (v := .agg #[.int .i64 V.next, .slice V.ja V.jl V.jc]) (by simp [results, Tryd.results17, go_sem, k0, k1]) rfl ⟨⟨_, rfl, hdk⟩, bF⟩
        · have hE' : (E == 0) = false := by simpa using hE
          have HNZ : Hid (backNx ⟨s, ls, p, l, me⟩ nx bs ⟨3, frm, dst, site, num, label, key, value, version, ask, yes, code⟩ ⟨rk, ra, rb, rc, rd, re⟩ = nx ∧ backJs ⟨s, ls, p, l, me⟩ nx bs ⟨3, frm, dst, site, num, label, key, value, version, ask, yes, code⟩ ⟨rk, ra, rb, rc, rd, re⟩ = bs) := by
            have h1 := HNY.out
            rw [if_neg hE, if_neg hE] at h1
            exact h1
          go_upto_region 19 with (go_at_call 15; refine HH.out.mono ?_; rintro e y ⟨V, iz, mz, rfl, hLv, hby⟩; simp only [CkV.turn])
          obtain ⟨Z, eZ⟩ : ∃ Z : World, Z = y.alloc (.cells #[.int .i64 V.next, .slice V.ja V.jl V.jc, .slice V.ma V.ml V.mc, .slice V.ra V.rl V.rc, .slice V.pa V.pl V.pc, .int .i64 V.sure, .int .i64 V.com] 39) := ⟨_, rfl⟩
          have bZ : Below y.heap.size y Z := by rw [eZ]; exact (Below.refl _ _).alloc (Nat.le_refl _) _
          rw [← eZ]
          have bXZ := nT hby bZ
          have bWZ := nT bX bXZ
          have rbx := HBox.out Z bWZ
          have r0 : Z.cell? ⟨w.heap.size + 4, 0, none⟩ = some (.int .i64 0) := (rbx.c 0 (by decide)).1
          have r1 : Z.cell? ⟨w.heap.size + 4, 1, none⟩ = some (.slice none 0 0) := (rbx.c 1 (by decide)).1
          have rf0 := (rbx.c 0 (by decide)).2
          have rf1 := (rbx.c 1 (by decide)).2
          have zr := rbx.lt
          clear eZ hLv x0 x1 x2 x3 x4 x5 x6 x7 x8 x9 x10 x11 d0 d1 d2 d3 d4
          obtain ⟨-, -, -, d3, d4, -, -, -, -, -, -, -, -, -, -, -, -, -, -, -, -, -, -⟩ := KC.out Z bWZ
          have z5Z := (HZ.out Z bWZ).2
          go_wp2
          have rbF := (rbx.set 0 (by decide) (.int .i64 nx)).set 1 (by decide) (.slice da N dc)
          have bF : Below w.heap.size w ((Z.setCell ⟨w.heap.size + 4, 0, none⟩ (.int .i64 nx)).setCell ⟨w.heap.size + 4, 1, none⟩ (.slice da N dc)) := ((HZ.out Z bWZ).1.setCell (p := ⟨w.heap.size + 4, 0, none⟩) (by show w.heap.size ≤ w.heap.size + 4; omega) _).setCell (p := ⟨w.heap.size + 4, 1, none⟩) (by show w.heap.size ≤ w.heap.size + 4; omega) _
          have hdk : DkIs B ((Z.setCell ⟨w.heap.size + 4, 0, none⟩ (.int .i64 nx)).setCell ⟨w.heap.size + 4, 1, none⟩ (.slice da N dc)) (.agg #[.int .i64 nx, .slice da N dc]) (backNx ⟨s, ls, p, l, me⟩ nx bs ⟨3, frm, dst, site, num, label, key, value, version, ask, yes, code⟩ ⟨rk, ra, rb, rc, rd, re⟩) (backJs ⟨s, ls, p, l, me⟩ nx bs ⟨3, frm, dst, site, num, label, key, value, version, ask, yes, code⟩ ⟨rk, ra, rb, rc, rd, re⟩) := by
            have h1 := HNZ.out
            rw [h1.1, h1.2]
            have hfar := HD.out.farNew (r := w.heap.size + 4) (by omega)
            have hd2 := ((HD.out.below (HZ.out Z bWZ).1).asideF hfar 0 (.int .i64 nx)).asideF hfar 1 (.slice da N dc)
            refine ⟨da, dc, js, ix, more, by rw [HN.out], ?_, HBs.out⟩
            rw [HN.out] at hd2
            rw [HN.out]
            exact hd2
          obtain ⟨Y, eY⟩ : ∃ Y, Y = (Z.setCell ⟨w.heap.size + 4, 0, none⟩ (.int .i64 nx)).setCell ⟨w.heap.size + 4, 1, none⟩ (.slice da N dc) := ⟨_, rfl⟩
          rw [← eY] at rbF bF hdk ⊢
          clear eY
          have k0 : Y.cell? ⟨w.heap.size + 4, 0, none⟩ = some (.int .i64 nx) := (rbF.c 0 (by decide)).1
          have k1 : Y.cell? ⟨w.heap.size + 4, 1, none⟩ = some (.slice da N dc) := (rbF.c 1 (by decide)).1
          exact bodyPost_ret (v := .agg #[.int .i64 nx, .slice da N dc]) (by simp [results, Tryd.results17, go_sem, k0, k1]) rfl ⟨⟨_, rfl, hdk⟩, bF⟩
      · have h3' : (kind == 3) = false := by simpa using h3
        have HB8 : Hid (backM me ⟨kind, frm, dst, site, num, label, key, value, version, ask, yes, code⟩ ⟨rk, ra, rb, rc, rd, re⟩ = ⟨8, dst, me, site, num, 0, key, 0, 0, 0, false, 0⟩) := by show _ = _; unfold backM; rw [if_neg h1, if_neg h2, if_neg h3]
        go_enter Tryd.func17, Tryd.ntmps17
        go_upto_region 1 with (fail)
        rw [← hW]
        clear hW
        go_upto_region 18 with (fail)
        obtain ⟨X, hX⟩ : ∃ X : World, X = W.alloc (.cells #[.int .i64 8, .int .i64 dst, .int .i64 me, .int .i64 site, .int .i64 num, .int .i64 0, .int .i64 key, .int .i64 0, .int .i64 0, .int .i64 0, .bool false, .int .i64 0] 58) := ⟨_, rfl⟩
        have bX : Below W.heap.size W X := by rw [hX]; exact (Below.refl _ _).alloc (Nat.le_refl _) _
        have zX : W.heap.size < X.heap.size := by rw [hX]; simp
        have xb : BoxN X W.heap.size 12 [.int .i64 8, .int .i64 dst, .int .i64 me, .int .i64 site, .int .i64 num, .int .i64 0, .int .i64 key, .int .i64 0, .int .i64 0, .int .i64 0, .bool false, .int .i64 0] := by
          rw [hX]
          exact boxn_new W #[.int .i64 8, .int .i64 dst, .int .i64 me, .int .i64 site, .int .i64 num, .int .i64 0, .int .i64 key, .int .i64 0, .int .i64 0, .int .i64 0, .bool false, .int .i64 0] 58 12 rfl
        rw [← hX]
        clear hX c0 c1 c2 c3 c4 c5 c6 c7 c8 c9 c10 c11 c12 c13 c14 c15 c16 c17 c18 c19 c20 c21 c22
        obtain ⟨d0, d1, d2, d3, d4, -, -, -, -, -, -, -, -, -, -, -, -, -, -, -, -, -, -⟩ := KC.out X bX
        have x0 : X.cell? ⟨W.heap.size, 0, none⟩ = some (.int .i64 8) := (xb.c 0 (by decide)).1
        have x1 : X.cell? ⟨W.heap.size, 1, none⟩ = some (.int .i64 dst) := (xb.c 1 (by decide)).1
        have x2 : X.cell? ⟨W.heap.size, 2, none⟩ = some (.int .i64 me) := (xb.c 2 (by decide)).1
        have x3 : X.cell? ⟨W.heap.size, 3, none⟩ = some (.int .i64 site) := (xb.c 3 (by decide)).1
        have x4 : X.cell? ⟨W.heap.size, 4, none⟩ = some (.int .i64 num) := (xb.c 4 (by decide)).1
        have x5 : X.cell? ⟨W.heap.size, 5, none⟩ = some (.int .i64 0) := (xb.c 5 (by decide)).1
        have x6 : X.cell? ⟨W.heap.size, 6, none⟩ = some (.int .i64 key) := (xb.c 6 (by decide)).1
        have x7 : X.cell? ⟨W.heap.size, 7, none⟩ = some (.int .i64 0) := (xb.c 7 (by decide)).1
        have x8 : X.cell? ⟨W.heap.size, 8, none⟩ = some (.int .i64 0) := (xb.c 8 (by decide)).1
        have x9 : X.cell? ⟨W.heap.size, 9, none⟩ = some (.int .i64 0) := (xb.c 9 (by decide)).1
        have x10 : X.cell? ⟨W.heap.size, 10, none⟩ = some (.bool false) := (xb.c 10 (by decide)).1
        have x11 : X.cell? ⟨W.heap.size, 11, none⟩ = some (.int .i64 0) := (xb.c 11 (by decide)).1
        have z5 := (HZ.out X bX).2
        have HH : Hid (Calls Tryd.prog 15 #[.agg #[.int .i64 s, .slice a len cap, .int .i64 p], .int .i64 l, .int .i64 me, .agg #[.int .i64 nx, .slice da N dc], .agg #[.int .i64 8, .int .i64 dst, .int .i64 me, .int .i64 site, .int .i64 num, .int .i64 0, .int .i64 key, .int .i64 0, .int .i64 0, .int .i64 0, .bool false, .int .i64 0]] X fun e w' => ∃ (v' : CkV) (ix' : List (Nat × Nat)) (more' : List Rw), e = .returned (.tuple #[v'.turn, .int .i64 (hrErr ⟨s, ls, p, l, me⟩ nx bs ⟨8, dst, me, site, num, 0, key, 0, 0, 0, false, 0⟩)]) ∧ Live X.heap.size w' v' ix' more' (HearAns ⟨s, ls, p, l, me⟩ nx bs ⟨8, dst, me, site, num, 0, key, 0, 0, 0, false, 0⟩) ∧ Below X.heap.size X w') := HHr.out ⟨8, dst, me, site, num, 0, key, 0, 0, 0, false, 0⟩ X (HZ.out X bX).1
        have HNX := HNx.out ⟨8, dst, me, site, num, 0, key, 0, 0, 0, false, 0⟩ HB8.out
        have HNY : Hid _ := HNX
        clear HNX HNx HHr
        obtain ⟨E, eE⟩ : ∃ E, E = hrErr ⟨s, ls, p, l, me⟩ nx bs ⟨8, dst, me, site, num, 0, key, 0, 0, 0, false, 0⟩ := ⟨_, rfl⟩
        rw [← eE] at HH HNY
        clear eE
        by_cases hE : E = 0
        · subst hE
          have HNZ : Hid (backNx ⟨s, ls, p, l, me⟩ nx bs ⟨kind, frm, dst, site, num, label, key, value, version, ask, yes, code⟩ ⟨rk, ra, rb, rc, rd, re⟩ = (HearAns ⟨s, ls, p, l, me⟩ nx bs ⟨8, dst, me, site, num, 0, key, 0, 0, 0, false, 0⟩).next ∧ backJs ⟨s, ls, p, l, me⟩ nx bs ⟨kind, frm, dst, site, num, label, key, value, version, ask, yes, code⟩ ⟨rk, ra, rb, rc, rd, re⟩ = (HearAns ⟨s, ls, p, l, me⟩ nx bs ⟨8, dst, me, site, num, 0, key, 0, 0, 0, false, 0⟩).js) := by
            have h1 := HNY.out
            rw [if_pos rfl, if_pos rfl] at h1
            exact h1
          go_upto_region 19 with (go_at_call 15; refine HH.out.mono ?_; rintro e y ⟨V, iz, mz, rfl, hLv, hby⟩; simp only [CkV.turn])
          obtain ⟨Z, eZ⟩ : ∃ Z : World, Z = y.alloc (.cells #[.int .i64 V.next, .slice V.ja V.jl V.jc, .slice V.ma V.ml V.mc, .slice V.ra V.rl V.rc, .slice V.pa V.pl V.pc, .int .i64 V.sure, .int .i64 V.com] 39) := ⟨_, rfl⟩
          have bZ : Below y.heap.size y Z := by rw [eZ]; exact (Below.refl _ _).alloc (Nat.le_refl _) _
          have tb : BoxN Z y.heap.size 7 [.int .i64 V.next, .slice V.ja V.jl V.jc, .slice V.ma V.ml V.mc, .slice V.ra V.rl V.rc, .slice V.pa V.pl V.pc, .int .i64 V.sure, .int .i64 V.com] := by rw [eZ]; exact boxn_new y #[.int .i64 V.next, .slice V.ja V.jl V.jc, .slice V.ma V.ml V.mc, .slice V.ra V.rl V.rc, .slice V.pa V.pl V.pc, .int .i64 V.sure, .int .i64 V.com] 39 7 rfl
          rw [← eZ]
          have t0 : Z.cell? ⟨y.heap.size, 0, none⟩ = some (.int .i64 V.next) := (tb.c 0 (by decide)).1
          have t1 : Z.cell? ⟨y.heap.size, 1, none⟩ = some (.slice V.ja V.jl V.jc) := (tb.c 1 (by decide)).1
          have zt := tb.lt
          have bXZ := nT hby bZ
          have bWZ := nT bX bXZ
          have rbx := HBox.out Z bWZ
          have r0 : Z.cell? ⟨w.heap.size + 4, 0, none⟩ = some (.int .i64 0) := (rbx.c 0 (by decide)).1
          have r1 : Z.cell? ⟨w.heap.size + 4, 1, none⟩ = some (.slice none 0 0) := (rbx.c 1 (by decide)).1
          have rf0 := (rbx.c 0 (by decide)).2
          have rf1 := (rbx.c 1 (by decide)).2
          have zr := rbx.lt
          have HLv : Hid (Live X.heap.size Z V iz mz (HearAns ⟨s, ls, p, l, me⟩ nx bs ⟨8, dst, me, site, num, 0, key, 0, 0, 0, false, 0⟩)) := hLv.below bZ
          clear eZ hLv x0 x1 x2 x3 x4 x5 x6 x7 x8 x9 x10 x11 d0 d1 d2 d3 d4 tb
          go_wp2
          have rbF := (rbx.set 0 (by decide) (.int .i64 V.next)).set 1 (by decide) (.slice V.ja V.jl V.jc)
          have bF : Below w.heap.size w ((Z.setCell ⟨w.heap.size + 4, 0, none⟩ (.int .i64 V.next)).setCell ⟨w.heap.size + 4, 1, none⟩ (.slice V.ja V.jl V.jc)) := ((HZ.out Z bWZ).1.setCell (p := ⟨w.heap.size + 4, 0, none⟩) (by show w.heap.size ≤ w.heap.size + 4; omega) _).setCell (p := ⟨w.heap.size + 4, 1, none⟩) (by show w.heap.size ≤ w.heap.size + 4; omega) _
          have hdk : DkIs B ((Z.setCell ⟨w.heap.size + 4, 0, none⟩ (.int .i64 V.next)).setCell ⟨w.heap.size + 4, 1, none⟩ (.slice V.ja V.jl V.jc)) (.agg #[.int .i64 V.next, .slice V.ja V.jl V.jc]) (backNx ⟨s, ls, p, l, me⟩ nx bs ⟨kind, frm, dst, site, num, label, key, value, version, ask, yes, code⟩ ⟨rk, ra, rb, rc, rd, re⟩) (backJs ⟨s, ls, p, l, me⟩ nx bs ⟨kind, frm, dst, site, num, label, key, value, version, ask, yes, code⟩ ⟨rk, ra, rb, rc, rd, re⟩) := by
            have h1 := HNZ.out
            rw [h1.1, h1.2]
            have hd := HLv.out.desk
            have hfar := hd.farOld (r := w.heap.size + 4) (by omega)
            have hd2 := ((hd.asideF hfar 0 (.int .i64 V.next)).asideF hfar 1 (.slice V.ja V.jl V.jc)).base (B := B) (by omega)
            refine ⟨V.ja, V.jc, V.js, iz, mz, by rw [HLv.out.nums.1, HLv.out.js.2], ?_, HLv.out.js.1⟩
            rw [← HLv.out.js.2]
            exact hd2
          obtain ⟨Y, eY⟩ : ∃ Y, Y = (Z.setCell ⟨w.heap.size + 4, 0, none⟩ (.int .i64 V.next)).setCell ⟨w.heap.size + 4, 1, none⟩ (.slice V.ja V.jl V.jc) := ⟨_, rfl⟩
          rw [← eY] at rbF bF hdk ⊢
          clear eY
          have k0 : Y.cell? ⟨w.heap.size + 4, 0, none⟩ = some (.int .i64 V.next) := (rbF.c 0 (by decide)).1
          have k1 : Y.cell? ⟨w.heap.size + 4, 1, none⟩ = some (.slice V.ja V.jl V.jc) := (rbF.c 1 (by decide)).1
          exact bodyPost_ret (v := .agg #[.int .i64 V.next, .slice V.ja V.jl V.jc]) (by simp [results, Tryd.results17, go_sem, k0, k1]) rfl ⟨⟨_, rfl, hdk⟩, bF⟩
        · have hE' : (E == 0) = false := by simpa using hE
          have HNZ : Hid (backNx ⟨s, ls, p, l, me⟩ nx bs ⟨kind, frm, dst, site, num, label, key, value, version, ask, yes, code⟩ ⟨rk, ra, rb, rc, rd, re⟩ = nx ∧ backJs ⟨s, ls, p, l, me⟩ nx bs ⟨kind, frm, dst, site, num, label, key, value, version, ask, yes, code⟩ ⟨rk, ra, rb, rc, rd, re⟩ = bs) := by
            have h1 := HNY.out
            rw [if_neg hE, if_neg hE] at h1
            exact h1
          go_upto_region 19 with (go_at_call 15; refine HH.out.mono ?_; rintro e y ⟨V, iz, mz, rfl, hLv, hby⟩; simp only [CkV.turn])
          obtain ⟨Z, eZ⟩ : ∃ Z : World, Z = y.alloc (.cells #[.int .i64 V.next, .slice V.ja V.jl V.jc, .slice V.ma V.ml V.mc, .slice V.ra V.rl V.rc, .slice V.pa V.pl V.pc, .int .i64 V.sure, .int .i64 V.com] 39) := ⟨_, rfl⟩
          have bZ : Below y.heap.size y Z := by rw [eZ]; exact (Below.refl _ _).alloc (Nat.le_refl _) _
          rw [← eZ]
          have bXZ := nT hby bZ
          have bWZ := nT bX bXZ
          have rbx := HBox.out Z bWZ
          have r0 : Z.cell? ⟨w.heap.size + 4, 0, none⟩ = some (.int .i64 0) := (rbx.c 0 (by decide)).1
          have r1 : Z.cell? ⟨w.heap.size + 4, 1, none⟩ = some (.slice none 0 0) := (rbx.c 1 (by decide)).1
          have rf0 := (rbx.c 0 (by decide)).2
          have rf1 := (rbx.c 1 (by decide)).2
          have zr := rbx.lt
          clear eZ hLv x0 x1 x2 x3 x4 x5 x6 x7 x8 x9 x10 x11 d0 d1 d2 d3 d4
          obtain ⟨-, -, -, d3, d4, -, -, -, -, -, -, -, -, -, -, -, -, -, -, -, -, -, -⟩ := KC.out Z bWZ
          have z5Z := (HZ.out Z bWZ).2
          go_wp2
          have rbF := (rbx.set 0 (by decide) (.int .i64 nx)).set 1 (by decide) (.slice da N dc)
          have bF : Below w.heap.size w ((Z.setCell ⟨w.heap.size + 4, 0, none⟩ (.int .i64 nx)).setCell ⟨w.heap.size + 4, 1, none⟩ (.slice da N dc)) := ((HZ.out Z bWZ).1.setCell (p := ⟨w.heap.size + 4, 0, none⟩) (by show w.heap.size ≤ w.heap.size + 4; omega) _).setCell (p := ⟨w.heap.size + 4, 1, none⟩) (by show w.heap.size ≤ w.heap.size + 4; omega) _
          have hdk : DkIs B ((Z.setCell ⟨w.heap.size + 4, 0, none⟩ (.int .i64 nx)).setCell ⟨w.heap.size + 4, 1, none⟩ (.slice da N dc)) (.agg #[.int .i64 nx, .slice da N dc]) (backNx ⟨s, ls, p, l, me⟩ nx bs ⟨kind, frm, dst, site, num, label, key, value, version, ask, yes, code⟩ ⟨rk, ra, rb, rc, rd, re⟩) (backJs ⟨s, ls, p, l, me⟩ nx bs ⟨kind, frm, dst, site, num, label, key, value, version, ask, yes, code⟩ ⟨rk, ra, rb, rc, rd, re⟩) := by
            have h1 := HNZ.out
            rw [h1.1, h1.2]
            have hfar := HD.out.farNew (r := w.heap.size + 4) (by omega)
            have hd2 := ((HD.out.below (HZ.out Z bWZ).1).asideF hfar 0 (.int .i64 nx)).asideF hfar 1 (.slice da N dc)
            refine ⟨da, dc, js, ix, more, by rw [HN.out], ?_, HBs.out⟩
            rw [HN.out] at hd2
            rw [HN.out]
            exact hd2
          obtain ⟨Y, eY⟩ : ∃ Y, Y = (Z.setCell ⟨w.heap.size + 4, 0, none⟩ (.int .i64 nx)).setCell ⟨w.heap.size + 4, 1, none⟩ (.slice da N dc) := ⟨_, rfl⟩
          rw [← eY] at rbF bF hdk ⊢
          clear eY
          have k0 : Y.cell? ⟨w.heap.size + 4, 0, none⟩ = some (.int .i64 nx) := (rbF.c 0 (by decide)).1
          have k1 : Y.cell? ⟨w.heap.size + 4, 1, none⟩ = some (.slice da N dc) := (rbF.c 1 (by decide)).1
          exact bodyPost_ret (v := .agg #[.int .i64 nx, .slice da N dc]) (by simp [results, Tryd.results17, go_sem, k0, k1]) rfl ⟨⟨_, rfl, hdk⟩, bF⟩
end Go.Proofs.YtdjnaahkcnklhaaDoor.Co
