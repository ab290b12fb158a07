/- Texts of this claim, one behind the other. -/
import Derived.Test.YtdjnaahkcnklhaaM20TaskTwice
import Derived.Test.YtdjnaahkcnklhaaProg
import Derived.WalkKit
import Derived.ProofKit
import Derived.Below
import Derived.OpenShut
import Derived.Test.YtdjnaahkcnklhaaM0TaskTwice
import Derived.Test.YtdjnaahkcnklhaaM6TaskTwice
/- A turn that lives on: its lists are rows of its own, whatever is made besides. -/
namespace Go.Proofs.Ytdjnaahkcnklhaa.Co
open Go.ChangeShapes Go.WideShapes Go.ChangeAt Go.RowKit
open Go.Proofs.Ytdjnaahkcnklhaa.St (BoxN boxn_new own_below grown_setCell IsRow Elem flat flat_append own_isRow idxI idxI_lt)
set_option linter.unusedVariables false

instance : Inhabited CkV := ⟨⟨0, none, 0, 0, 0, 0, 0, 0, none, 0, 0, none, 0, 0, none, 0, 0, none, 0, 0, 0, 0, [], [], [], []⟩⟩
structure Live (B : Nat) (u : World) (v : CkV) (ix : List (Nat × Nat)) (more : List Rw) (t : Tn) : Prop where
  own : Own u B (v.rows ++ more)
  jobs : JobsIn v.js ix more
  recs : RecsIn v.rs more
  lens : v.js.length = v.jl ∧ v.ms.length = v.ml ∧ v.rs.length = v.rl ∧ v.ps.length = v.pl
  tn : v.tn = t
variable {B : Nat} {u : World} {v : CkV} {ix : List (Nat × Nat)} {more : List Rw} {t : Tn}
theorem Live.below {u' : World} (h : Live B u v ix more t) (hb : Below u.heap.size u u') : Live B u' v ix more t := ⟨h.own.below hb, h.jobs, h.recs, h.lens, h.tn⟩
theorem Live.base {C : Nat} (h : Live C u v ix more t) (hb : B ≤ C) : Live B u v ix more t := ⟨h.own.base hb, h.jobs, h.recs, h.lens, h.tn⟩
def Far (r : Nat) (rows : List Rw) : Prop := ∀ (i : Nat) (s : Rw), rows[i]? = some s → s.v.ownBlock ≠ some r
theorem Live.aside (h : Live B u v ix more t) {r : Nat} (hr : Far r (v.rows ++ more)) (j : Nat) (x : Value) : Live B (u.setCell ⟨r, j, none⟩ x) v ix more t := ⟨h.own.aside hr j x, h.jobs, h.recs, h.lens, h.tn⟩
theorem Live.aside7 (h : Live B u v ix more t) {r : Nat} (hr : Far r (v.rows ++ more)) (a b c d e f g : Value) : Live B (set7 u r a b c d e f g) v ix more t := ((((((h.aside hr 0 a).aside hr 1 b).aside hr 2 c).aside hr 3 d).aside hr 4 e).aside hr 5 f).aside hr 6 g
theorem Live.farNew (h : Live B u v ix more t) : Far u.heap.size (v.rows ++ more) := fun i s e e2 => Nat.lt_irrefl _ ((h.own.own i s e).lt _ e2).2
theorem Live.farOld (h : Live B u v ix more t) {r : Nat} (hr : r < B) : Far r (v.rows ++ more) := fun i s e e2 => by
  have := ((h.own.own i s e).lt _ e2).1
  omega
theorem turn_live {w w' : World} {tv : Value} {t : Tn} (h : TurnIs w w' tv t) : ∃ (v : CkV) (ix : List (Nat × Nat)) (more : List Rw), tv = v.turn ∧ Live w.heap.size w' v ix more t ∧ Below w.heap.size w w' := by
  obtain ⟨v, ix, more, e, h1, h2⟩ := h
  exact ⟨v, ix, more, e, ⟨h1.own, h1.jobs, h1.recs, h1.lens, h2⟩, h1.bel⟩
theorem Live.isJobs (h : Live B u v ix more t) : IsJobs u v.ja v.jl v.jc v.js := by
  have o0 := h.own.own 0 ⟨67, 6, .slice v.ja v.jl v.jc, v.jl, flat JbV.cells v.js⟩ rfl
  refine ⟨(own_isRow jb_len o0 h.lens.1).1, fun j hj => ?_⟩
  obtain ⟨i, hi, rfl⟩ := List.getElem_of_mem hj
  obtain ⟨x, ex, e1, e2⟩ := h.jobs.at hi
  have e3 : v.js.getD i default = v.js[i] := by simp [List.getD, hi]
  rw [e3] at e1 e2
  have o1 := h.own.own _ _ (more_get e1)
  have o2 := h.own.own _ _ (more_get e2)
  exact ⟨(own_isRow tk_len o1 (own_count tk_len (by decide) o1)).1, (own_isRow in_len o2 (own_count in_len (by decide) o2)).1⟩
theorem Live.msgs (h : Live B u v ix more t) : IsRow 12 mcells u v.ma v.ml v.mc v.ms := (own_isRow mcells_len (h.own.own 1 ⟨45, 12, .slice v.ma v.ml v.mc, v.ml, flat mcells v.ms⟩ rfl) h.lens.2.1).1
theorem Live.rcds (h : Live B u v ix more t) : IsRow 8 RcV.cells u v.ra v.rl v.rc v.rs := (own_isRow rc_len (h.own.own 2 ⟨78, 8, .slice v.ra v.rl v.rc, v.rl, flat RcV.cells v.rs⟩ rfl) h.lens.2.2.1).1
theorem Live.reps (h : Live B u v ix more t) : IsRow 6 RpV.cells u v.pa v.pl v.pc v.ps := (own_isRow rp_len (h.own.own 3 ⟨41, 6, .slice v.pa v.pl v.pc, v.pl, flat RpV.cells v.ps⟩ rfl) h.lens.2.2.2).1
theorem Live.ps (h : Live B u v ix more t) : v.ps = t.ps ∧ v.pl = t.ps.length := by
  have e : v.ps = t.ps := congrArg Tn.ps h.tn
  exact ⟨e, by rw [← e, h.lens.2.2.2]⟩
theorem Live.ms (h : Live B u v ix more t) : v.ms = t.ms ∧ v.ml = t.ms.length := by
  have e : v.ms = t.ms := congrArg Tn.ms h.tn
  exact ⟨e, by rw [← e, h.lens.2.1]⟩
theorem Live.rs (h : Live B u v ix more t) : v.rs.map RcV.bare = t.rs ∧ v.rl = t.rs.length := by
  have e : v.rs.map RcV.bare = t.rs := congrArg Tn.rs h.tn
  exact ⟨e, by rw [← e, List.length_map, h.lens.2.2.1]⟩
theorem Live.js (h : Live B u v ix more t) : v.js.map JbV.bare = t.js ∧ v.jl = t.js.length := by
  have e : v.js.map JbV.bare = t.js := congrArg Tn.js h.tn
  exact ⟨e, by rw [← e, List.length_map, h.lens.1]⟩
theorem Live.nums (h : Live B u v ix more t) : v.next = t.next ∧ v.sure = t.sure ∧ v.com = t.com := ⟨congrArg Tn.next h.tn, congrArg Tn.sure h.tn, congrArg Tn.com h.tn⟩
/- What is refused hangs on plain data alone. -/
theorem jbs_bare (s nl next : Int) : ∀ (js : List JbV) (low : Int), jbsGo s nl next low (js.map JbV.bare) = jbsGo s nl next low js
  | [], _ => rfl
  | j :: l, low => by
    simp only [List.map_cons, jbsGo]
    rw [jbs_bare s nl next l]
    rfl
theorem rf_bare (s : Int) (ls : List (Int × Int)) (p l me next : Int) (js : List JbV) : rfErr s ls p l me next (js.map JbV.bare) = rfErr s ls p l me next js := by
  unfold rfErr dkErr jbsOK
  rw [jbs_bare, List.length_map]
theorem cl_bare (C : Cx) (next : Int) (js : List JbV) (kind : Int) : clErr C next (js.map JbV.bare) kind = clErr C next js kind := by
  unfold clErr
  rw [rf_bare]
theorem tn0_bare (next : Int) (js : List JbV) : tn0 next (js.map JbV.bare) = tn0 next js := by
  unfold tn0
  rw [List.map_map]
  rfl
theorem ans_bare (C : Cx) (next : Int) (js : List JbV) (room : Int) (x : ClV) : CallAns C next (js.map JbV.bare) room x = CallAns C next js room x := by
  unfold CallAns
  rw [cl_bare, tn0_bare]
/-- Call once more, at a desk that a turn told. -/
theorem call_live (s p : Int) (a : Option Addr) (len cap : Nat) (ls : List (Int × Int)) (l me : Int) (room : Int) (x : ClV) (w : World) (hl : IsLabs w a len cap ls) (h : Live B w v ix more t) :
    Calls Try.prog 6 #[.agg #[.int .i64 s, .slice a len cap, .int .i64 p], .int .i64 l, .int .i64 me, .agg #[.int .i64 v.next, .slice v.ja v.jl v.jc], .int .i64 room, x.val] w fun e w' => ∃ (v' : CkV) (ix' : List (Nat × Nat)) (more' : List Rw), e = .returned (.tuple #[v'.turn, .int .i64 (clErr ⟨s, ls, p, l, me⟩ t.next t.js x.kind)]) ∧ Live w.heap.size w' v' ix' more' (CallAns ⟨s, ls, p, l, me⟩ t.next t.js room x) ∧ Below w.heap.size w w' := by
  refine (call_any s p a len cap ls l me v.next v.ja v.jl v.jc v.js room x w hl h.isJobs).mono ?_
  rintro e w' ⟨tv, rfl, hT⟩
  obtain ⟨v', ix', more', rfl, h1, h2⟩ := turn_live hT
  refine ⟨v', ix', more', ?_, ?_, h2⟩
  · rw [← h.nums.1, ← h.js.1, cl_bare]
  · rw [← h.nums.1, ← h.js.1, ans_bare]; exact h1
theorem call_new (s p : Int) (a : Option Addr) (len cap : Nat) (ls : List (Int × Int)) (l me next : Int) (room : Int) (x : ClV) (w : World) (hl : IsLabs w a len cap ls) :
    Calls Try.prog 6 #[.agg #[.int .i64 s, .slice a len cap, .int .i64 p], .int .i64 l, .int .i64 me, .agg #[.int .i64 next, .slice none 0 0], .int .i64 room, x.val] w fun e w' => ∃ (v' : CkV) (ix' : List (Nat × Nat)) (more' : List Rw), e = .returned (.tuple #[v'.turn, .int .i64 (clErr ⟨s, ls, p, l, me⟩ next [] x.kind)]) ∧ Live w.heap.size w' v' ix' more' (CallAns ⟨s, ls, p, l, me⟩ next [] room x) ∧ Below w.heap.size w w' := by
  have hj : IsJobs w none 0 0 [] := ⟨St.isRow_nil _ _ _, fun j hj => by cases hj⟩
  refine (call_any s p a len cap ls l me next none 0 0 [] room x w hl hj).mono ?_
  rintro e w' ⟨tv, rfl, hT⟩
  obtain ⟨v', ix', more', rfl, h1, h2⟩ := turn_live hT
  exact ⟨v', ix', more', rfl, h1, h2⟩
/-- A turn's value, with its numbers written out. -/
def turnOf (v : CkV) (nx : Int) (jl ml rl pl : Nat) (su co : Int) : Value := .agg #[.int .i64 nx, .slice v.ja jl v.jc, .slice v.ma ml v.mc, .slice v.ra rl v.rc, .slice v.pa pl v.pc, .int .i64 su, .int .i64 co]
theorem Live.turn (h : Live B u v ix more t) {nx : Int} {jl ml rl pl : Nat} {su co : Int} (e1 : t.next = nx) (e2 : t.js.length = jl) (e3 : t.ms.length = ml) (e4 : t.rs.length = rl) (e5 : t.ps.length = pl) (e6 : t.sure = su) (e7 : t.com = co) : v.turn = turnOf v nx jl ml rl pl su co := by
  unfold CkV.turn turnOf
  rw [h.nums.1, h.nums.2.1, h.nums.2.2, h.js.2, h.ms.2, h.rs.2, h.ps.2, e1, e2, e3, e4, e5, e6, e7]
theorem call_on (s p : Int) (a : Option Addr) (len cap : Nat) (ls : List (Int × Int)) (l me : Int) (room : Int) (x : ClV) (w : World) (hl : IsLabs w a len cap ls) (h : Live B w v ix more t) {nx0 : Int} {jl0 : Nat} (e8 : t.next = nx0) (e9 : t.js.length = jl0) {t' : Tn} (hc : clErr ⟨s, ls, p, l, me⟩ t.next t.js x.kind = 0) (ht : CallAns ⟨s, ls, p, l, me⟩ t.next t.js room x = t') {nx : Int} {jl ml rl pl : Nat} {su co : Int} (e1 : t'.next = nx) (e2 : t'.js.length = jl) (e3 : t'.ms.length = ml) (e4 : t'.rs.length = rl) (e5 : t'.ps.length = pl) (e6 : t'.sure = su) (e7 : t'.com = co) :
    Calls Try.prog 6 #[.agg #[.int .i64 s, .slice a len cap, .int .i64 p], .int .i64 l, .int .i64 me, .agg #[.int .i64 nx0, .slice v.ja jl0 v.jc], .int .i64 room, x.val] w fun e w' => ∃ (v' : CkV) (ix' : List (Nat × Nat)) (more' : List Rw), e = .returned (.tuple #[turnOf v' nx jl ml rl pl su co, .int .i64 0]) ∧ Live w.heap.size w' v' ix' more' t' ∧ Below w.heap.size w w' := by
  have := call_live s p a len cap ls l me room x w hl h
  rw [h.nums.1, h.js.2, e8, e9, ← e8] at this
  rw [hc, ht, e8] at this
  refine this.mono ?_
  rintro e w' ⟨v', ix', more', rfl, h1, h2⟩
  exact ⟨v', ix', more', by rw [h1.turn e1 e2 e3 e4 e5 e6 e7], h1, h2⟩
theorem call_first (s p : Int) (a : Option Addr) (len cap : Nat) (ls : List (Int × Int)) (l me next : Int) (room : Int) (x : ClV) (w : World) (hl : IsLabs w a len cap ls) {t' : Tn} (hc : clErr ⟨s, ls, p, l, me⟩ next [] x.kind = 0) (ht : CallAns ⟨s, ls, p, l, me⟩ next [] room x = t') {nx : Int} {jl ml rl pl : Nat} {su co : Int} (e1 : t'.next = nx) (e2 : t'.js.length = jl) (e3 : t'.ms.length = ml) (e4 : t'.rs.length = rl) (e5 : t'.ps.length = pl) (e6 : t'.sure = su) (e7 : t'.com = co) :
    Calls Try.prog 6 #[.agg #[.int .i64 s, .slice a len cap, .int .i64 p], .int .i64 l, .int .i64 me, .agg #[.int .i64 next, .slice none 0 0], .int .i64 room, x.val] w fun e w' => ∃ (v' : CkV) (ix' : List (Nat × Nat)) (more' : List Rw), e = .returned (.tuple #[turnOf v' nx jl ml rl pl su co, .int .i64 0]) ∧ Live w.heap.size w' v' ix' more' t' ∧ Below w.heap.size w w' := by
  have := call_new s p a len cap ls l me next room x w hl
  rw [hc, ht] at this
  refine this.mono ?_
  rintro e w' ⟨v', ix', more', rfl, h1, h2⟩
  exact ⟨v', ix', more', by rw [h1.turn e1 e2 e3 e4 e5 e6 e7], h1, h2⟩
end Go.Proofs.Ytdjnaahkcnklhaa.Co
/- The contract of picked: a number from 0 on below another one. -/
namespace Go.Proofs.Ytdjnaahkcnklhaa
open Go.ChangeShapes Go.WideShapes Go.ChangeAt Go.RowKit

def pk (n m : Int) : Int := (if n < 0 then -(n + 1) else n) % m
theorem pk_bd (n m : Int) (h : 0 < m) : 0 ≤ pk n m ∧ pk n m < m := ⟨Int.emod_nonneg _ (by omega), Int.emod_lt_of_pos _ h⟩
theorem pk_neg {n m : Int} (h : n < 0) : pk n m = (-(n + 1)) % m := by simp [pk, h]
theorem pk_pos {n m : Int} (h : ¬ n < 0) : pk n m = n % m := by simp [pk, h]

theorem i64_bd {n : Int} (h : (Lit.int .i64 n).wf = true) : -9223372036854775808 ≤ n ∧ n ≤ 9223372036854775807 := by
  have := bounds_i64 h
  omega

theorem picked_any (n m : Int) (w : World) (hn : -9223372036854775808 ≤ n ∧ n ≤ 9223372036854775807) (hm : 0 < m) (hm2 : m ≤ 9223372036854775807) :
    Calls Try.prog 7 #[.int .i64 n, .int .i64 m] w fun e w' => e = .returned (.int .i64 (pk n m)) ∧ w' = w := by
  obtain ⟨h1, h2⟩ := hn
  by_cases h : n < 0
  · rw [pk_neg h]
    go_enter Try.func7, Try.ntmps7
    go_wp2
    go_ret
    exact ⟨ret_int (by rw [← Int.tmod_eq_emod_of_nonneg (by omega), Int.neg_tmod]), rfl⟩
  · rw [pk_pos h]
    have h0 : 0 ≤ n := by omega
    go_enter Try.func7, Try.ntmps7
    go_wp2
    go_ret
    exact ⟨rfl, rfl⟩

end Go.Proofs.Ytdjnaahkcnklhaa
/- The config of two labels, the second one above the first one. -/
namespace Go.Proofs.Ytdjnaahkcnklhaa.Pt
open Go.ChangeShapes Go.WideShapes Go.ChangeAt Go.RowKit
set_option linter.unusedVariables false

def LS2 : List (Int × Int) := [(0, 0), (1, 0)]
theorem cfg_two {s p : Int} (h1 : 1 ≤ s) (h2 : s ≤ 4) (h3 : 1 ≤ p) (h4 : p ≤ 1048576) : cfgFault s LS2 p = 0 := by
  unfold cfgFault
  rw [if_neg (by omega), if_neg (by decide), if_neg (by decide), if_neg (by omega)]
set_option maxRecDepth 100000 in
theorem two_any (s : Int) (w : World) (hs : -9223372036854775808 ≤ s ∧ s ≤ 9223372036854775807) :
    Calls Try.prog 5 #[.int .i64 s] w fun e w' => ∃ g, e = .returned (.agg #[.int .i64 (1 + pk s 3), .slice (some ⟨g, 0, none⟩) 2 2, .int .i64 3]) ∧ IsLabs w' (some ⟨g, 0, none⟩) 2 2 LS2 ∧ w.heap.size ≤ g ∧ Below w.heap.size w w' := by
  have hp := pk_bd s 3 (by omega)
  have hwr : IntKind.i64.wrap (1 + pk s 3) = 1 + pk s 3 := by simp [IntKind.wrap, IntKind.bits, IntKind.signed]; omega
  have hP := fun u => picked_any s 3 u hs (by omega) (by omega)
  obtain ⟨K, eK⟩ : ∃ K, K = pk s 3 := ⟨_, rfl⟩
  rw [← eK] at hP hwr ⊢
  clear eK hp
  go_enter Try.func5, Try.ntmps5
  go_wp2_with (go_at_call 7; refine (hP _).mono ?_; rintro e u ⟨rfl, hu⟩; rw [hu]; clear hu)
  obtain ⟨X, eX⟩ : ∃ X : World, X = (w.alloc (.cells #[.int .i64 (1 + K), .slice (some ⟨w.heap.size + 1, 0, none⟩) 2 2, .int .i64 3] 24)).alloc (.cells #[.int .i64 0, .int .i64 0, .int .i64 1, .int .i64 0] 50) := ⟨_, rfl⟩
  have hb : Below w.heap.size w X := by rw [eX]; exact ((Below.refl _ _).alloc (Nat.le_refl _) _).alloc (by simp) _
  have c0 : X.cell? ⟨w.heap.size + 1, 0, none⟩ = some (.int .i64 0) := by rw [eX]; go_simp
  have c1 : X.cell? ⟨w.heap.size + 1, 1, none⟩ = some (.int .i64 0) := by rw [eX]; go_simp
  have c2 : X.cell? ⟨w.heap.size + 1, 2, none⟩ = some (.int .i64 1) := by rw [eX]; go_simp
  have c3 : X.cell? ⟨w.heap.size + 1, 3, none⟩ = some (.int .i64 0) := by rw [eX]; go_simp
  have q0 : X.cell? ⟨w.heap.size, 0, none⟩ = some (.int .i64 (1 + K)) := by rw [eX]; go_simp
  have q1 : X.cell? ⟨w.heap.size, 1, none⟩ = some (.slice (some ⟨w.heap.size + 1, 0, none⟩) 2 2) := by rw [eX]; go_simp
  have q2 : X.cell? ⟨w.heap.size, 2, none⟩ = some (.int .i64 3) := by rw [eX]; go_simp
  have zX : w.heap.size + 1 < X.heap.size := by rw [eX]; simp
  rw [← eX]
  clear eX
  refine bodyPost_ret (v := .agg #[.int .i64 (1 + K), .slice (some ⟨w.heap.size + 1, 0, none⟩) 2 2, .int .i64 3]) (by simp [results, Try.results5, go_sem, q0, q1, q2]) rfl ⟨w.heap.size + 1, rfl, ?_, by omega, ?_⟩
  · refine ⟨rfl, Nat.le_refl _, by unfold maxLen; omega, fun _ => ⟨w.heap.size + 1, 0, rfl, zX, fun i hi => ?_⟩⟩
    have hi2 : i = 0 ∨ i = 1 := by simp [LS2] at hi; omega
    rcases hi2 with rfl | rfl
    · exact ⟨c0, c1⟩
    · exact ⟨c2, c3⟩
  · exact hb
end Go.Proofs.Ytdjnaahkcnklhaa.Pt
