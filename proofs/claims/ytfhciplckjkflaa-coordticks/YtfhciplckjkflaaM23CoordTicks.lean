/- Texts of this claim, one behind the other. -/
import Derived.Test.YtfhciplckjkflaaM22CoordTicks
import Derived.Test.YtfhciplckjkflaaM19CoordTicks
import Derived.Test.YtfhciplckjkflaaM20CoordTicks
/- coord on plain data: what a clerk's turn becomes. -/
namespace Go.Proofs.Ytfhciplckjkflaa.Co
open Go.ChangeShapes Go.WideShapes Go.ChangeAt Go.RowKit
open Go.Proofs.Ytfhciplckjkflaa.St (BoxN boxn_new own_below grown_setCell IsRow Elem flat flat_append own_isRow idxI idxI_lt)
open Go.Proofs.Ytfhciplckjkflaa.Se (seesB)
set_option linter.unusedVariables false

/-- A label's clerk at a site. -/
structure Cx where
  s : Int
  ls : List (Int × Int)
  p : Int
  l : Int
  me : Int
/-- A turn, as plain data (its jobs and records are bare). -/
structure Tn where
  next : Int
  js : List JbV
  ms : List MV
  rs : List RcV
  ps : List RpV
  sure : Int
  com : Int
def RcV.bare (r : RcV) : RcV := { r with sa := none, sl := 0, sc := 0 }
def CkV.tn (v : CkV) : Tn := ⟨v.next, v.js.map JbV.bare, v.ms, v.rs.map RcV.bare, v.ps, v.sure, v.com⟩
def CkV.cx (v : CkV) (ls : List (Int × Int)) : Cx := ⟨v.s, ls, v.p, v.l, v.me⟩
def Cx.hands (C : Cx) (ts : List TkV) : List Int := handsOf C.s C.ls C.p C.l ts
def Cx.home (C : Cx) (key : Int) : Int := homeNum C.s C.ls C.p key
def Cx.sees (C : Cx) (place : Int) : Bool := seesB C.s C.ls C.p C.l place
def Tn.rep (t : Tn) (C : Cx) (kind n key value code : Int) : Tn := { t with ps := t.ps ++ [⟨C.me, kind, n, key, value, code⟩] }
def Tn.ended (t : Tn) (C : Cx) (n : Int) (ts : List TkV) : Tn := { t with ms := t.ms ++ (C.hands ts).map (decM C.me n false), js := kept n t.js }
def Tn.begun (t : Tn) (C : Cx) (room : Int) : Tn := if (decide (6 ≤ t.js.length) || decide (1048576 < t.next) || decide (room < 600)) = true then t.rep C 1 0 0 0 8 else { t with next := t.next + 1, js := t.js ++ [newJob t.next], rs := t.rs ++ [⟨5, C.me, t.next, 0, 0, 0, false, none, 0, 0, []⟩], ps := t.ps ++ [⟨C.me, 1, t.next, 0, 0, 0⟩] }
def askJob (j : JbV) (t : TkV) : JbV := { j with asks := j.asks + 1, age := 0, tasks := j.tasks ++ [{ t with ask := j.asks + 1 }] }
def Tn.asked (t : Tn) (i : Nat) (tk : TkV) (m : MV) : Tn := { t with js := t.js.set i (askJob (t.js.getD i default) tk), ms := t.ms ++ [m] }
def teltJob (j : JbV) (H : List Int) : JbV := { j with state := 3, age := 0, asked := H }
def Tn.comm (t : Tn) (C : Cx) (i : Nat) : Tn :=
  if C.hands (t.js.getD i default).tasks = [] then { t with com := (t.js.getD i default).n, ps := t.ps ++ [⟨C.me, 4, (t.js.getD i default).n, 0, 0, 0⟩], js := kept (t.js.getD i default).n t.js }
  else { t with com := (t.js.getD i default).n, ps := t.ps ++ [⟨C.me, 4, (t.js.getD i default).n, 0, 0, 0⟩], rs := t.rs ++ (if ((t.js.getD i default).tasks.any fun t => t.write) = true then [⟨3, C.me, (t.js.getD i default).n, 0, 0, 0, false, none, 0, 0, C.hands (t.js.getD i default).tasks⟩] else []), js := t.js.set i (teltJob (t.js.getD i default) (C.hands (t.js.getD i default).tasks)), ms := t.ms ++ (C.hands (t.js.getD i default).tasks).map (decM C.me (t.js.getD i default).n true) }
def Tn.check (t : Tn) (C : Cx) (i : Nat) : Tn :=
  if allSure (t.js.getD i default).tasks = true then Tn.comm { t with sure := (t.js.getD i default).n } C i
  else { t with sure := (t.js.getD i default).n, js := t.js.set i { t.js.getD i default with state := 2, age := 0 }, ms := t.ms ++ chkMs C.s C.ls C.p C.me (t.js.getD i default).n (t.js.getD i default).tasks }
/-- What a call for a job is refused with. -/
def askErr (C : Cx) (x : ClV) (j : JbV) : Int :=
  if j.state = 1 then (if waitB j = true then 14 else if (x.kind == 2 || x.kind == 3) = true then (if (inR x.key 0 7 && inR x.value 0 1073741824) = true then (if (x.kind == 2 && !C.sees x.label) = true then 10 else if (decide (10 ≤ j.tasks.length) || decide (1048576 ≤ j.asks)) = true then 8 else 0) else 2) else 0) else 13
def Tn.call (t : Tn) (C : Cx) (room : Int) (x : ClV) : Tn :=
  if x.kind = 1 then t.begun C room
  else if idxI (isN x.n) t.js = -1 then t.rep C x.kind x.n x.key 0 6
  else if askErr C x (t.js.getD (idxI (isN x.n) t.js).toNat default) ≠ 0 then t.rep C x.kind x.n x.key 0 (askErr C x (t.js.getD (idxI (isN x.n) t.js).toNat default))
  else if x.kind = 2 then t.asked (idxI (isN x.n) t.js).toNat ⟨false, x.label, x.key, 0, 0, 0, false, false⟩ ⟨1, C.me, C.home x.key, C.me, (t.js.getD (idxI (isN x.n) t.js).toNat default).n, x.label, x.key, 0, 0, (t.js.getD (idxI (isN x.n) t.js).toNat default).asks + 1, false, 0⟩
  else if x.kind = 3 then t.asked (idxI (isN x.n) t.js).toNat ⟨true, C.l, x.key, x.value, 0, 0, false, false⟩ ⟨2, C.me, C.home x.key, C.me, (t.js.getD (idxI (isN x.n) t.js).toNat default).n, 0, x.key, x.value, 0, (t.js.getD (idxI (isN x.n) t.js).toNat default).asks + 1, false, 0⟩
  else if x.kind = 4 then t.check C (idxI (isN x.n) t.js).toNat
  else (t.ended C (t.js.getD (idxI (isN x.n) t.js).toNat default).n (t.js.getD (idxI (isN x.n) t.js).toNat default).tasks).rep C 5 x.n 0 0 0
/-- A desk at the beginning of a turn. -/
def tn0 (next : Int) (js : List JbV) : Tn := ⟨next, js.map JbV.bare, [], [], [], 0, 0⟩

theorem bare_bare (j : JbV) : j.bare.bare = j.bare := rfl
theorem getD_bare (js : List JbV) (i : Nat) : (js.map JbV.bare).getD i default = (js.getD i default).bare := by
  by_cases h : i < js.length
  · simp [List.getD, h]
  · simp [List.getD, h]
    rfl
theorem idx_bare (n : Int) (js : List JbV) : idxI (isN n) (js.map JbV.bare) = idxI (isN n) js := by
  unfold idxI
  rw [List.findIdx?_map]
  rfl
theorem kept_bare (n : Int) (js : List JbV) : (kept n js).map JbV.bare = kept n (js.map JbV.bare) := by
  unfold kept keep
  induction js with
  | nil => rfl
  | cons a l ih =>
    have e : isN n a.bare = isN n a := rfl
    cases h : isN n a <;> simp [List.filter, h, e] at ih ⊢ <;> exact ih
theorem set_bare (js : List JbV) (i : Nat) (j : JbV) : (js.set i j).map JbV.bare = (js.map JbV.bare).set i j.bare := by rw [List.map_set]
theorem tn_rep (v : CkV) (ls : List (Int × Int)) (pa : Option Addr) (pc : Nat) (kind n key value code : Int) : (refusedV v pa pc ⟨v.me, kind, n, key, value, code⟩).tn = v.tn.rep (v.cx ls) kind n key value code := rfl
theorem tn_begun (v : CkV) (ls : List (Int × Int)) (room : Int) (hl : v.js.length = v.jl) (ja : Option Addr) (jc : Nat) (ra : Option Addr) (rc : Nat) (pa : Option Addr) (pc : Nat) : (fullB v room = true → v.tn.begun (v.cx ls) room = (refusedV v pa pc ⟨v.me, 1, 0, 0, 0, 8⟩).tn) ∧ (fullB v room = false → v.tn.begun (v.cx ls) room = (begunV v ja jc ra rc pa pc).tn) := by
  have e : (decide (6 ≤ v.tn.js.length) || decide (1048576 < v.tn.next) || decide (room < 600)) = fullB v room := by
    unfold fullB CkV.tn
    simp [hl]
  unfold Tn.begun
  rw [e]
  refine ⟨fun h => ?_, fun h => ?_⟩
  · rw [if_pos h]; rfl
  · rw [if_neg (by rw [h]; decide)]
    unfold begunV CkV.tn CkV.cx
    simp [newJob, JbV.bare, RcV.bare]
theorem tn_ask (v : CkV) (i : Nat) (hi : i < v.js.length) (t : TkV) (a5 : Option Addr) (c5 : Nat) (ma : Option Addr) (mc : Nat) (m : MV) : (askV v i t a5 c5 ma mc m).tn = v.tn.asked i t m := by
  unfold askV CkV.tn Tn.asked
  simp only [set_bare, getD_bare]
  rfl
theorem tn_end (v : CkV) (ls : List (Int × Int)) (ma : Option Addr) (mc : Nat) (n : Int) (ts : List TkV) : ({ toldV v ma mc n false (handsOf v.s ls v.p v.l ts) with jl := (kept n v.js).length, js := kept n v.js } : CkV).tn = v.tn.ended (v.cx ls) n ts := by
  unfold toldV CkV.tn Tn.ended
  simp only [kept_bare]
  rfl
theorem tn_gone (v : CkV) (ls : List (Int × Int)) (i : Nat) (pa : Option Addr) (pc : Nat) (h : handsOf v.s ls v.p v.l (v.js.getD i default).tasks = []) : (goneV v (v.js.getD i default).n pa pc).tn = v.tn.comm (v.cx ls) i := by
  unfold Tn.comm
  have e : v.tn.js.getD i default = (v.js.getD i default).bare := getD_bare _ _
  rw [if_pos (by rw [e]; exact h)]
  unfold goneV CkV.tn
  simp only [kept_bare, getD_bare]
  rfl
theorem tn_com (v : CkV) (ls : List (Int × Int)) (i : Nat) (pa : Option Addr) (pc : Nat) (ra : Option Addr) (rc : Nat) (ma : Option Addr) (mc : Nat) (aa : Option Addr) (ac : Nat) (sa : Option Addr) (sc : Nat) (h : handsOf v.s ls v.p v.l (v.js.getD i default).tasks ≠ []) : (comV v i (v.js.getD i default).n pa pc ra rc ma mc aa ac (if ((v.js.getD i default).tasks.any fun t => t.write) = true then [comRc v.me (v.js.getD i default).n sa sc (handsOf v.s ls v.p v.l (v.js.getD i default).tasks)] else []) (handsOf v.s ls v.p v.l (v.js.getD i default).tasks)).tn = v.tn.comm (v.cx ls) i := by
  have e : v.tn.js.getD i default = (v.js.getD i default).bare := getD_bare _ _
  have hn : ¬ (v.cx ls).hands (v.tn.js.getD i default).tasks = [] := by rw [e]; exact h
  unfold Tn.comm
  rw [if_neg hn, e]
  unfold comV CkV.tn
  simp only [set_bare, List.map_append]
  have e2 : (v.js.getD i default).bare.tasks = (v.js.getD i default).tasks := rfl
  rw [e2]
  cases ((v.js.getD i default).tasks.any fun t => t.write)
  · rfl
  · rfl
theorem tn_chk (v : CkV) (ls : List (Int × Int)) (i : Nat) (ma : Option Addr) (mc : Nat) (h : allSure (v.js.getD i default).tasks = false) : (chkV v i (v.js.getD i default).n ma mc (chkMs v.s ls v.p v.me (v.js.getD i default).n (v.js.getD i default).tasks)).tn = v.tn.check (v.cx ls) i := by
  unfold Tn.check
  have e : v.tn.js.getD i default = (v.js.getD i default).bare := getD_bare _ _
  rw [if_neg (by rw [e]; show ¬ allSure (v.js.getD i default).tasks = true; rw [h]; decide)]
  rw [e]
  unfold chkV CkV.tn
  simp only [set_bare]
  rfl
theorem tn_chkCom (v : CkV) (ls : List (Int × Int)) (i : Nat) (h : allSure (v.js.getD i default).tasks = true) : v.tn.check (v.cx ls) i = ({ v with sure := (v.js.getD i default).n } : CkV).tn.comm (v.cx ls) i := by
  unfold Tn.check
  have e : v.tn.js.getD i default = (v.js.getD i default).bare := getD_bare _ _
  rw [if_pos (by rw [e]; exact h)]
  rw [e]
  rfl
theorem ask_err (C : Cx) (x : ClV) (j : JbV) (h : j.tasks.length = j.tl) : callErr (C.sees x.label) x j = askErr C x j.bare := by
  unfold callErr askErr taskErr
  have e : waitB j.bare = waitB j := rfl
  have e1 : j.bare.state = j.state := rfl
  have e2 : j.bare.tasks = j.tasks := rfl
  have e3 : j.bare.asks = j.asks := rfl
  rw [e, e1, e2, e3, h]
/-- What a turn's lists are in memory: rows of the call's own. -/
def RecsIn (rs : List RcV) (more : List Rw) : Prop := ∀ r ∈ rs, (r.sa = none ∧ r.sl = 0 ∧ r.sc = 0 ∧ r.zs = []) ∨ ∃ k : Nat, more[k]? = some (siteRow r.sa r.sl r.sc r.zs)
structure Turned (w w' : World) (v : CkV) (ix : List (Nat × Nat)) (more : List Rw) : Prop where
  own : Own w' w.heap.size (v.rows ++ more)
  jobs : JobsIn v.js ix more
  recs : RecsIn v.rs more
  lens : v.js.length = v.jl ∧ v.ms.length = v.ml ∧ v.rs.length = v.rl ∧ v.ps.length = v.pl
  bel : Below w.heap.size w w'
def CkV.turn (v : CkV) : Value := .agg #[.int .i64 v.next, .slice v.ja v.jl v.jc, .slice v.ma v.ml v.mc, .slice v.ra v.rl v.rc, .slice v.pa v.pl v.pc, .int .i64 v.sure, .int .i64 v.com]
def TurnIs (w w' : World) (tv : Value) (t : Tn) : Prop := ∃ (v : CkV) (ix : List (Nat × Nat)) (more : List Rw), tv = v.turn ∧ Turned w w' v ix more ∧ v.tn = t
theorem recsIn_nil (more : List Rw) : RecsIn [] more := fun r hr => by cases hr
theorem rise_len {s : Int} : ∀ {l : List Int} {low : Int}, rise s low l = true → low ≤ s → (l.length : Int) ≤ s - low
  | [], low, _, h => by simp; omega
  | a :: l, low, h, hl => by
    simp only [rise, Bool.and_eq_true, inR, decide_eq_true_eq] at h
    have := rise_len (l := l) h.2 (by omega)
    simp only [List.length_cons]
    omega
theorem jbsGo_mem {s nl next : Int} : ∀ {l : List JbV} {low : Int}, jbsGo s nl next low l = true → ∀ j ∈ l, jbOK s nl j = true ∧ low ≤ j.n ∧ j.n ≤ next - 1
  | [], _, _, j, hj => by cases hj
  | a :: l, low, h, j, hj => by
    simp only [jbsGo, Bool.and_eq_true, inR, decide_eq_true_eq] at h
    cases hj with
    | head => exact ⟨h.1.2, h.1.1.1, h.1.1.2⟩
    | tail _ hj =>
      have := jbsGo_mem (l := l) h.2 j hj
      exact ⟨this.1, by omega, this.2.2⟩
theorem jbOK_fit {s nl : Int} {j : JbV} (h : jbOK s nl j = true) (hs : 0 ≤ s ∧ s ≤ 4) : j.tasks.length ≤ 10 ∧ j.asked.length ≤ 4 ∧ 0 ≤ j.asks ∧ j.asks ≤ 1048576 := by
  simp only [jbOK, tksOK, Bool.and_eq_true, inR, decide_eq_true_eq] at h
  have := rise_len h.1.1.2 hs.1
  refine ⟨h.2.1, by omega, h.1.1.1.2.1, h.1.1.1.2.2⟩
end Go.Proofs.Ytfhciplckjkflaa.Co
/- What the clerk's methods leave, on plain data. -/
namespace Go.Proofs.Ytfhciplckjkflaa.Co
open Go.ChangeShapes Go.WideShapes Go.ChangeAt Go.RowKit
open Go.Proofs.Ytfhciplckjkflaa.St (BoxN boxn_new own_below grown_setCell IsRow Elem flat flat_append own_isRow idxI idxI_lt)
open Go.Proofs.Ytfhciplckjkflaa.Se (seesB)
set_option linter.unusedVariables false

theorem fitM {a : Nat} (h : a ≤ 1000000) : (a + 1048577) * 96 ≤ 140737488355328 := by omega
theorem fitM1 {a : Nat} (h : a ≤ 1000000) : (a + 1) * 96 ≤ 140737488355328 := by omega
theorem fitR {a : Nat} (h : a ≤ 1000000) : (a + 1) * 80 ≤ 140737488355328 := by omega
theorem fitP {a : Nat} (h : a ≤ 1000000) : (a + 1) * 48 ≤ 140737488355328 := by omega
theorem fitT {a : Nat} (h : a ≤ 1000000) : (a + 1) * 56 ≤ 140737488355328 := by omega
/-- A clerk whose turn is t; its header is that of v. -/
def Hd (v u : CkV) : Prop := u.s = v.s ∧ u.a = v.a ∧ u.len = v.len ∧ u.cap = v.cap ∧ u.p = v.p ∧ u.l = v.l ∧ u.me = v.me
def DoneIs (w X' : World) (B q : Nat) (v : CkV) (t : Tn) (e : Ending) : Prop := e = .returned (.tuple #[]) ∧ ∃ (u : CkV) (ix : List (Nat × Nat)) (more : List Rw), Clerk w X' B q u ix more ∧ RecsIn u.rs more ∧ u.tn = t ∧ Hd v u
abbrev Labs (w : World) (B q : Nat) (v : CkV) (ls : List (Int × Int)) : Prop := ∀ (U : World) (u : CkV) (iy : List (Nat × Nat)) (m' : List Rw), Clerk w U B q u iy m' → IsLabs U v.a v.len v.cap ls
variable {w : World} {B q : Nat} {v : CkV} {ix : List (Nat × Nat)} {more : List Rw}
theorem reply_done (X : World) (h : Clerk w X B q v ix more) (hr : RecsIn v.rs more) (ls : List (Int × Int)) (kind n key value code : Int) (hp : v.pl ≤ 1000000) :
    Calls Try.prog 20 #[.pointer (some ⟨q, 0, none⟩), .agg #[.int .i64 0, .int .i64 kind, .int .i64 n, .int .i64 key, .int .i64 value, .int .i64 code]] X fun e X' => DoneIs w X' B q v (v.tn.rep (v.cx ls) kind n key value code) e := by
  refine (reply_any X h ⟨0, kind, n, key, value, code⟩ (fitP hp)).mono ?_
  rintro e u ⟨rfl, a5, c5, h5⟩
  exact ⟨rfl, _, ix, more, h5, hr, rfl, rfl, rfl, rfl, rfl, rfl, rfl, rfl⟩
theorem begin_done (X : World) (h : Clerk w X B q v ix more) (hr : v.rs = []) (ls : List (Int × Int)) (room : Int) (hnx : 1 ≤ v.next) (hj : v.jl ≤ 1000000) (hrl : v.rl ≤ 1000000) (hp : v.pl ≤ 1000000) :
    Calls Try.prog 17 #[.pointer (some ⟨q, 0, none⟩), .int .i64 room] X fun e X' => DoneIs w X' B q v (v.tn.begun (v.cx ls) room) e := by
  have hl := h.lens.1
  refine (begin_any X h room hnx (fitR hj) (fitR hrl) (fitP hp)).mono ?_
  rintro e u ⟨rfl, h1, h2⟩
  refine ⟨rfl, ?_⟩
  cases hf : fullB v room with
  | true =>
    obtain ⟨pa, pc, ix', more', h5⟩ := h1 hf
    exact ⟨_, ix', more', h5, by show RecsIn v.rs _; rw [hr]; exact recsIn_nil _, ((tn_begun v ls room hl none 0 none 0 pa pc).1 hf).symm, rfl, rfl, rfl, rfl, rfl, rfl, rfl⟩
  | false =>
    obtain ⟨ja, jc, ra, rc, pa, pc, ix', more', h5⟩ := h2 hf
    refine ⟨_, ix', more', h5, ?_, ((tn_begun v ls room hl ja jc ra rc pa pc).2 hf).symm, rfl, rfl, rfl, rfl, rfl, rfl, rfl⟩
    show RecsIn (v.rs ++ [_]) _
    rw [hr]
    intro r hx
    simp at hx
    subst hx
    exact Or.inl ⟨rfl, rfl, rfl, rfl⟩
theorem ask_done {X' : World} {i : Nat} (hi : i < v.js.length) (hr : v.rs = []) {t : TkV} {m : MV} {e : Ending} (h : AskIs w X' B q v i t m ix e) : DoneIs w X' B q v (v.tn.asked i t m) e := by
  obtain ⟨rfl, a5, c5, ma, mc, more', h5⟩ := h
  exact ⟨rfl, _, ix, more', h5, by show RecsIn v.rs _; rw [hr]; exact recsIn_nil _, tn_ask v i hi t a5 c5 ma mc m, rfl, rfl, rfl, rfl, rfl, rfl, rfl⟩
theorem get_done (X : World) (h : Clerk w X B q v ix more) (hr : v.rs = []) (ls : List (Int × Int)) {i g : Nat} (hi : i < v.jl) (eg : v.ja = some ⟨g, 0, none⟩) (x : ClV) (h0 : 0 ≤ (v.js.getD i default).asks) (h1 : (v.js.getD i default).asks ≤ 1048576) (hn : (v.js.getD i default).tl ≤ 1000000) (hm : v.ml ≤ 1000000) (hL : Labs w B q v ls) :
    Calls Try.prog 21 #[.pointer (some ⟨q, 0, none⟩), .pointer (some ⟨g, i * 6, none⟩), x.val] X fun e X' => DoneIs w X' B q v (v.tn.asked i ⟨false, x.label, x.key, 0, 0, 0, false, false⟩ ⟨1, v.me, (v.cx ls).home x.key, v.me, (v.js.getD i default).n, x.label, x.key, 0, 0, (v.js.getD i default).asks + 1, false, 0⟩) e := by
  have hi' : i < v.js.length := by rw [h.lens.1]; exact hi
  refine (get_any X h ls hi eg x h0 h1 (fitT hn) (fitM1 hm) hL).mono ?_
  intro e u hu
  exact ask_done hi' hr hu
theorem put_done (X : World) (h : Clerk w X B q v ix more) (hr : v.rs = []) (ls : List (Int × Int)) {i g : Nat} (hi : i < v.jl) (eg : v.ja = some ⟨g, 0, none⟩) (x : ClV) (h0 : 0 ≤ (v.js.getD i default).asks) (h1 : (v.js.getD i default).asks ≤ 1048576) (hn : (v.js.getD i default).tl ≤ 1000000) (hm : v.ml ≤ 1000000) (hL : Labs w B q v ls) :
    Calls Try.prog 22 #[.pointer (some ⟨q, 0, none⟩), .pointer (some ⟨g, i * 6, none⟩), x.val] X fun e X' => DoneIs w X' B q v (v.tn.asked i ⟨true, v.l, x.key, x.value, 0, 0, false, false⟩ ⟨2, v.me, (v.cx ls).home x.key, v.me, (v.js.getD i default).n, 0, x.key, x.value, 0, (v.js.getD i default).asks + 1, false, 0⟩) e := by
  have hi' : i < v.js.length := by rw [h.lens.1]; exact hi
  refine (put_any X h ls hi eg x h0 h1 (fitT hn) (fitM1 hm) hL).mono ?_
  intro e u hu
  exact ask_done hi' hr hu
theorem com_done {X' : World} {i : Nat} {ls : List (Int × Int)} (hr : v.rs = []) {e : Ending} (h : ComIs w X' B q v i (v.js.getD i default).n (handsOf v.s ls v.p v.l (v.js.getD i default).tasks) ((v.js.getD i default).tasks.any fun t => t.write) e) : DoneIs w X' B q v (v.tn.comm (v.cx ls) i) e := by
  obtain ⟨rfl, h1, h2⟩ := h
  refine ⟨rfl, ?_⟩
  by_cases hz : handsOf v.s ls v.p v.l (v.js.getD i default).tasks = []
  · obtain ⟨pa, pc, ix', more', h5⟩ := h1 hz
    exact ⟨_, ix', more', h5, by show RecsIn v.rs _; rw [hr]; exact recsIn_nil _, tn_gone v ls i pa pc hz, rfl, rfl, rfl, rfl, rfl, rfl, rfl⟩
  · obtain ⟨pa, pc, ra, rc, ma, mc, aa, ac, sa, sc, ix', more', h5, hk⟩ := h2 hz
    refine ⟨_, ix', more', h5, ?_, tn_com v ls i pa pc ra rc ma mc aa ac sa sc hz, rfl, rfl, rfl, rfl, rfl, rfl, rfl⟩
    show RecsIn (v.rs ++ _) _
    rw [hr]
    intro r hx
    cases hw : ((v.js.getD i default).tasks.any fun t => t.write) with
    | false => rw [hw] at hx; simp at hx
    | true =>
      rw [hw] at hx
      simp at hx
      subst hx
      exact Or.inr (hk hw)
theorem check_done (X : World) (h : Clerk w X B q v ix more) (hr : v.rs = []) (ls : List (Int × Int)) {i g : Nat} (hi : i < v.jl) (eg : v.ja = some ⟨g, 0, none⟩) (hs : v.s ≤ 1048576) (htl : (v.js.getD i default).tl ≤ 1048576) (hm : v.ml ≤ 1000000) (hrl : v.rl ≤ 1000000) (hp : v.pl ≤ 1000000) (hL : Labs w B q v ls) :
    Calls Try.prog 23 #[.pointer (some ⟨q, 0, none⟩), .pointer (some ⟨g, i * 6, none⟩)] X fun e X' => DoneIs w X' B q v (v.tn.check (v.cx ls) i) e := by
  refine (check_clerk X h ls hi eg hs htl (fitM hm) (fitR hrl) (fitP hp) hL).mono ?_
  rintro e u ⟨rfl, h1, h2⟩
  cases ha : allSure (v.js.getD i default).tasks with
  | true =>
    have h3 := com_done (v := { v with sure := (v.js.getD i default).n }) (i := i) (ls := ls) hr (h1 ha)
    obtain ⟨_, u', ix', more', h5, h6, h7, h8⟩ := h3
    exact ⟨rfl, u', ix', more', h5, h6, by rw [h7, tn_chkCom v ls i ha]; rfl, h8⟩
  | false =>
    obtain ⟨ma, mc, h5⟩ := h2 ha
    exact ⟨rfl, _, ix, more, h5, by show RecsIn v.rs _; rw [hr]; exact recsIn_nil _, tn_chk v ls i ma mc ha, rfl, rfl, rfl, rfl, rfl, rfl, rfl⟩
theorem end_done (X : World) (h : Clerk w X B q v ix more) (hr : v.rs = []) (ls : List (Int × Int)) (j : JbV) (hT : IsTasks X j.ta j.tl j.tc j.tasks) (hs : v.s ≤ 1048576) (hm : v.ml ≤ 1000000) (hL : Labs w B q v ls) :
    Calls Try.prog 24 #[.pointer (some ⟨q, 0, none⟩), j.val] X fun e X' => DoneIs w X' B q v (v.tn.ended (v.cx ls) j.n j.tasks) e := by
  refine (end_any X h ls (hL _ _ _ _ h) j hT hs (fitM hm)).mono ?_
  rintro e u ⟨rfl, ma, mc, ix', more', h5⟩
  exact ⟨rfl, _, ix', more', h5, by show RecsIn v.rs _; rw [hr]; exact recsIn_nil _, tn_end v ls ma mc j.n j.tasks, rfl, rfl, rfl, rfl, rfl, rfl, rfl⟩
def set7 (X : World) (r : Nat) (a b c d e f g : Value) : World := ((((((X.setCell ⟨r, 0, none⟩ a).setCell ⟨r, 1, none⟩ b).setCell ⟨r, 2, none⟩ c).setCell ⟨r, 3, none⟩ d).setCell ⟨r, 4, none⟩ e).setCell ⟨r, 5, none⟩ f).setCell ⟨r, 6, none⟩ g
/-- The turn is told in a box that is older than the clerk. -/
theorem turn_fin {w0 U X : World} {q : Nat} {v : CkV} {ix : List (Nat × Nat)} {more : List Rw} (h : Clerk U X U.heap.size q v ix more) (hr : RecsIn v.rs more) (hb : Below w0.heap.size w0 U) {r : Nat} (h1 : w0.heap.size ≤ r) (h2 : r < U.heap.size) (a b c d e f g : Value) : Turned w0 (set7 X r a b c d e f g) v ix more := by
  have hq : ∀ (i : Nat) (s : Rw), (v.rows ++ more)[i]? = some s → s.v.ownBlock ≠ some r := fun i s e e2 => by
    have := ((h.held.own.own i s e).lt _ e2).1
    omega
  have hB : Below w0.heap.size w0 X := hb.trans (h.held.bel.mono hb.size)
  exact ⟨(((((((h.held.own.base hb.size).aside hq 0 a).aside hq 1 b).aside hq 2 c).aside hq 3 d).aside hq 4 e).aside hq 5 f).aside hq 6 g, h.jobs, hr, h.lens, ((((((hB.setCell (p := ⟨r, 0, none⟩) h1 a).setCell (p := ⟨r, 1, none⟩) h1 b).setCell (p := ⟨r, 2, none⟩) h1 c).setCell (p := ⟨r, 3, none⟩) h1 d).setCell (p := ⟨r, 4, none⟩) h1 e).setCell (p := ⟨r, 5, none⟩) h1 f).setCell (p := ⟨r, 6, none⟩) h1 g⟩
theorem turned_nil {w0 W : World} (hb : Below w0.heap.size w0 W) : TurnIs w0 W (.agg #[.int .i64 0, .slice none 0 0, .slice none 0 0, .slice none 0 0, .slice none 0 0, .int .i64 0, .int .i64 0]) (tn0 0 []) := by
  refine ⟨⟨0, none, 0, 0, 0, 0, 0, 0, none, 0, 0, none, 0, 0, none, 0, 0, none, 0, 0, 0, 0, [], [], [], []⟩, [], [], rfl, ⟨⟨fun i r e => ?_, fun i j r s e1 e2 hij => ?_⟩, jobsIn_nil, recsIn_nil _, ⟨rfl, rfl, rfl, rfl⟩, hb⟩, rfl⟩
  · match i, e with
    | 0, e => simp [CkV.rows] at e; subst e; exact World.ownsRow_nil _ _ _ _
    | 1, e => simp [CkV.rows] at e; subst e; exact World.ownsRow_nil _ _ _ _
    | 2, e => simp [CkV.rows] at e; subst e; exact World.ownsRow_nil _ _ _ _
    | 3, e => simp [CkV.rows] at e; subst e; exact World.ownsRow_nil _ _ _ _
    | i + 4, e => simp [CkV.rows] at e
  · match i, e1 with
    | 0, e => simp [CkV.rows] at e; subst e; exact Or.inl rfl
    | 1, e => simp [CkV.rows] at e; subst e; exact Or.inl rfl
    | 2, e => simp [CkV.rows] at e; subst e; exact Or.inl rfl
    | 3, e => simp [CkV.rows] at e; subst e; exact Or.inl rfl
    | i + 4, e => simp [CkV.rows] at e
end Go.Proofs.Ytfhciplckjkflaa.Co
/- coord.Call. -/
namespace Go.Proofs.Ytfhciplckjkflaa.Co
open Go.ChangeShapes Go.WideShapes Go.ChangeAt Go.RowKit
open Go.Proofs.Ytfhciplckjkflaa.St (BoxN boxn_new own_below grown_setCell IsRow Elem flat flat_append own_isRow idxI idxI_lt)
open Go.Proofs.Ytfhciplckjkflaa.Se (seesB)
set_option linter.unusedVariables false

/-- What Call refuses. -/
def clErr (C : Cx) (next : Int) (js : List JbV) (kind : Int) : Int := if rfErr C.s C.ls C.p C.l C.me next js = 0 then (if inR kind 1 5 = true then 0 else 3) else rfErr C.s C.ls C.p C.l C.me next js
def CallAns (C : Cx) (next : Int) (js : List JbV) (room : Int) (x : ClV) : Tn := if clErr C next js x.kind = 0 then (tn0 next js).call C room x else tn0 0 []
def CallIs (w w' : World) (C : Cx) (next : Int) (js : List JbV) (room : Int) (x : ClV) (e : Ending) : Prop := ∃ tv, e = .returned (.tuple #[tv, .int .i64 (clErr C next js x.kind)]) ∧ TurnIs w w' tv (CallAns C next js room x)
theorem rf_zero {s : Int} {ls : List (Int × Int)} {p l me next : Int} {js : List JbV} (h : rfErr s ls p l me next js = 0) : dkErr s ls p next js = 0 := by
  unfold rfErr at h
  by_cases hd : dkErr s ls p next js = 0
  · exact hd
  · rw [if_neg hd] at h; exact h
theorem at_bare {js js' : List JbV} (h : js'.map JbV.bare = js.map JbV.bare) {i : Nat} : (js'.getD i default).bare = (js.getD i default).bare := by rw [← getD_bare, ← getD_bare, h]
theorem cfg_range {s : Int} {ls : List (Int × Int)} {p : Int} (h : cfgFault s ls p = 0) : 1 ≤ s ∧ s ≤ 4 := by
  by_cases hs : s < 1 ∨ 4 < s
  · rw [cfg_sites hs] at h; omega
  · omega
/-- What is known of a desk that may be, for the clerk's copy of it. -/
theorem desk_fine {s : Int} {ls : List (Int × Int)} {p l me next : Int} {js : List JbV} (h : rfErr s ls p l me next js = 0) : (1 ≤ s ∧ s ≤ 4) ∧ 1 ≤ next ∧ js.length ≤ 6 ∧ ∀ j ∈ js, j.tasks.length ≤ 10 ∧ j.asked.length ≤ 4 ∧ 0 ≤ j.asks ∧ j.asks ≤ 1048576 := by
  obtain ⟨h1, h2, h3⟩ := dk_zero (rf_zero h)
  have hs := cfg_range h1
  simp only [jbsOK, Bool.and_eq_true, decide_eq_true_eq] at h3
  simp only [inR, decide_eq_true_eq] at h2
  exact ⟨hs, h2.1, h3.1, fun j hj => jbOK_fit (jbsGo_mem h3.2 j hj).1 ⟨by omega, hs.2⟩⟩
set_option maxRecDepth 100000 in
set_option maxHeartbeats 8000000 in
theorem call_any (s p : Int) (a : Option Addr) (len cap : Nat) (ls : List (Int × Int)) (l me next : Int) (ja : Option Addr) (jl jc : Nat) (js : List JbV) (room : Int) (x : ClV) (w : World) (hl : IsLabs w a len cap ls) (hj : IsJobs w ja jl jc js) :
    Calls Try.prog 6 #[.agg #[.int .i64 s, .slice a len cap, .int .i64 p], .int .i64 l, .int .i64 me, .agg #[.int .i64 next, .slice ja jl jc], .int .i64 room, x.val] w fun e w' => CallIs w w' ⟨s, ls, p, l, me⟩ next js room x e := by
  obtain ⟨kind, n, label, key, value⟩ := x
  simp only [ClV.val]
  obtain ⟨W, hW⟩ : ∃ W : World, W = (((w.alloc (.cells #[.int .i64 s, .slice a len cap, .int .i64 p] 24)).alloc (.cells #[.int .i64 next, .slice ja jl jc] 27)).alloc (.cells #[.int .i64 kind, .int .i64 n, .int .i64 label, .int .i64 key, .int .i64 value] 29)).alloc (.cells #[.int .i64 0, .slice none 0 0, .slice none 0 0, .slice none 0 0, .slice none 0 0, .int .i64 0, .int .i64 0] 35) := ⟨_, rfl⟩
  have bW : Below w.heap.size w W := by rw [hW]; exact ((((Below.refl _ _).alloc (Nat.le_refl _) _).alloc (by simp) _).alloc (by simp; omega) _).alloc (by simp; omega) _
  have zW : W.heap.size = w.heap.size + 4 := by rw [hW]; simp
  have bxW : BoxN W (w.heap.size + 3) 7 [.int .i64 0, .slice none 0 0, .slice none 0 0, .slice none 0 0, .slice none 0 0, .int .i64 0, .int .i64 0] := by
    rw [hW]
    have := boxn_new (((w.alloc (.cells #[.int .i64 s, .slice a len cap, .int .i64 p] 24)).alloc (.cells #[.int .i64 next, .slice ja jl jc] 27)).alloc (.cells #[.int .i64 kind, .int .i64 n, .int .i64 label, .int .i64 key, .int .i64 value] 29)) #[.int .i64 0, .slice none 0 0, .slice none 0 0, .slice none 0 0, .slice none 0 0, .int .i64 0, .int .i64 0] 35 7 rfl
    simpa using this
  have c0 : W.cell? ⟨w.heap.size, 0, none⟩ = some (.int .i64 s) := by rw [hW]; go_simp
  have c1 : W.cell? ⟨w.heap.size, 1, none⟩ = some (.slice a len cap) := by rw [hW]; go_simp
  have c2 : W.cell? ⟨w.heap.size, 2, none⟩ = some (.int .i64 p) := by rw [hW]; go_simp
  have c3 : W.cell? ⟨w.heap.size + 1, 0, none⟩ = some (.int .i64 next) := by rw [hW]; go_simp
  have c4 : W.cell? ⟨w.heap.size + 1, 1, none⟩ = some (.slice ja jl jc) := by rw [hW]; go_simp
  have c5 : W.cell? ⟨w.heap.size + 2, 0, none⟩ = some (.int .i64 kind) := by rw [hW]; go_simp
  have c6 : W.cell? ⟨w.heap.size + 2, 1, none⟩ = some (.int .i64 n) := by rw [hW]; go_simp
  have c7 : W.cell? ⟨w.heap.size + 2, 2, none⟩ = some (.int .i64 label) := by rw [hW]; go_simp
  have c8 : W.cell? ⟨w.heap.size + 2, 3, none⟩ = some (.int .i64 key) := by rw [hW]; go_simp
  have c9 : W.cell? ⟨w.heap.size + 2, 4, none⟩ = some (.int .i64 value) := by rw [hW]; go_simp
  have KC : Hid (∀ U, Below W.heap.size W U → U.cell? ⟨w.heap.size, 0, none⟩ = some (.int .i64 s) ∧ U.cell? ⟨w.heap.size, 1, none⟩ = some (.slice a len cap) ∧ U.cell? ⟨w.heap.size, 2, none⟩ = some (.int .i64 p) ∧ U.cell? ⟨w.heap.size + 1, 0, none⟩ = some (.int .i64 next) ∧ U.cell? ⟨w.heap.size + 1, 1, none⟩ = some (.slice ja jl jc) ∧ U.cell? ⟨w.heap.size + 2, 0, none⟩ = some (.int .i64 kind) ∧ U.cell? ⟨w.heap.size + 2, 1, none⟩ = some (.int .i64 n) ∧ U.cell? ⟨w.heap.size + 2, 2, none⟩ = some (.int .i64 label) ∧ U.cell? ⟨w.heap.size + 2, 3, none⟩ = some (.int .i64 key) ∧ U.cell? ⟨w.heap.size + 2, 4, none⟩ = some (.int .i64 value)) := fun U hU => ⟨(hU.cell (p := ⟨w.heap.size, 0, none⟩) (by show w.heap.size < _; omega)).trans c0, (hU.cell (p := ⟨w.heap.size, 1, none⟩) (by show w.heap.size < _; omega)).trans c1, (hU.cell (p := ⟨w.heap.size, 2, none⟩) (by show w.heap.size < _; omega)).trans c2, (hU.cell (p := ⟨w.heap.size + 1, 0, none⟩) (by show w.heap.size + 1 < _; omega)).trans c3, (hU.cell (p := ⟨w.heap.size + 1, 1, none⟩) (by show w.heap.size + 1 < _; omega)).trans c4, (hU.cell (p := ⟨w.heap.size + 2, 0, none⟩) (by show w.heap.size + 2 < _; omega)).trans c5, (hU.cell (p := ⟨w.heap.size + 2, 1, none⟩) (by show w.heap.size + 2 < _; omega)).trans c6, (hU.cell (p := ⟨w.heap.size + 2, 2, none⟩) (by show w.heap.size + 2 < _; omega)).trans c7, (hU.cell (p := ⟨w.heap.size + 2, 3, none⟩) (by show w.heap.size + 2 < _; omega)).trans c8, (hU.cell (p := ⟨w.heap.size + 2, 4, none⟩) (by show w.heap.size + 2 < _; omega)).trans c9⟩
  have HBox : Hid (∀ U, Below W.heap.size W U → BoxN U (w.heap.size + 3) 7 [.int .i64 0, .slice none 0 0, .slice none 0 0, .slice none 0 0, .slice none 0 0, .int .i64 0, .int .i64 0]) := fun U hU => bxW.below hU bxW.lt
  have HZ : Hid (∀ U, Below W.heap.size W U → Below w.heap.size w U ∧ w.heap.size + 4 ≤ U.heap.size) := fun U hU => ⟨bW.trans (hU.mono bW.size), by have := hU.size; omega⟩
  have HRf : Hid (Calls Try.prog 14 #[.agg #[.int .i64 s, .slice a len cap, .int .i64 p], .int .i64 l, .int .i64 me, .agg #[.int .i64 next, .slice ja jl jc]] W fun e w' => e = .returned (.int .i64 (rfErr s ls p l me next js)) ∧ Below W.heap.size W w') := refuse_any s p a len cap ls l me next ja jl jc js W (hl.below bW) (hj.below bW)
  have HE : Hid (clErr ⟨s, ls, p, l, me⟩ next js kind = if rfErr s ls p l me next js = 0 then (if inR kind 1 5 = true then 0 else 3) else rfErr s ls p l me next js) := rfl
  have HFine := fun (h : rfErr s ls p l me next js = 0) => desk_fine h
  obtain ⟨E, eE⟩ : ∃ E, E = rfErr s ls p l me next js := ⟨_, rfl⟩
  rw [← eE] at HE HRf HFine
  have HNil : Hid (∀ U (e : Int), Below W.heap.size W U → e ≠ 0 → clErr ⟨s, ls, p, l, me⟩ next js kind = e → CallIs w (set7 U (w.heap.size + 3) (.int .i64 0) (.slice none 0 0) (.slice none 0 0) (.slice none 0 0) (.slice none 0 0) (.int .i64 0) (.int .i64 0)) ⟨s, ls, p, l, me⟩ next js room ⟨kind, n, label, key, value⟩ (.returned (.tuple #[.agg #[.int .i64 0, .slice none 0 0, .slice none 0 0, .slice none 0 0, .slice none 0 0, .int .i64 0, .int .i64 0], .int .i64 e]))) := fun U e hU he1 he2 => by
    refine ⟨_, by rw [he2], ?_⟩
    unfold CallAns
    simp only [he2]
    rw [if_neg he1]
    have hb := (HZ.out U hU).1
    have h1 : w.heap.size ≤ w.heap.size + 3 := by omega
    exact turned_nil (((((((hb.setCell (p := ⟨w.heap.size + 3, 0, none⟩) h1 _).setCell (p := ⟨w.heap.size + 3, 1, none⟩) h1 _).setCell (p := ⟨w.heap.size + 3, 2, none⟩) h1 _).setCell (p := ⟨w.heap.size + 3, 3, none⟩) h1 _).setCell (p := ⟨w.heap.size + 3, 4, none⟩) h1 _).setCell (p := ⟨w.heap.size + 3, 5, none⟩) h1 _).setCell (p := ⟨w.heap.size + 3, 6, none⟩) h1 _)
  clear c0 c1 c2 c3 c4 c5 c6 c7 c8 c9 eE bxW
  by_cases hE : E = 0
  · skip
    obtain ⟨hs4, hnx, h6, hF⟩ := HFine hE
    clear HFine
    subst hE
    obtain ⟨KK, eKK⟩ : ∃ KK, KK = inR kind 1 5 := ⟨_, rfl⟩
    have HKw : Hid (∀ U, Calls Try.prog 15 #[.int .i64 kind, .int .i64 1, .int .i64 5] U fun e w' => e = .returned (.bool KK) ∧ w' = U) := fun U => by rw [eKK]; exact within_any _ _ _ _
    rw [← eKK] at HE
    cases KK with
    | false =>
      have HC : Hid (clErr ⟨s, ls, p, l, me⟩ next js kind = 3) := by show _ = _; rw [HE.out]; rfl
      clear HE eKK
      have HEn : Hid ((3 : Int) ≠ 0) := by show _ ≠ _; decide
      go_enter Try.func6, Try.ntmps6
      go_upto_region 1 with (fail)
      rw [← hW]
      clear hW
      obtain ⟨c0, c1, c2, c3, c4, -, -, -, -, -⟩ := KC.out W (Below.refl _ _)
      have z4 := (HZ.out W (Below.refl _ _)).2
      go_upto_region 4 with (go_at_call 14; refine HRf.out.mono ?_; rintro e U ⟨rfl, hbU⟩)
      obtain ⟨-, -, -, -, -, d5, -, -, -, -⟩ := KC.out U hbU
      have z4U := (HZ.out U hbU).2
      have bR := HBox.out U (hbU)
      have r0 : U.cell? ⟨w.heap.size + 3, 0, none⟩ = some (.int .i64 0) := (bR.c 0 (by decide)).1
      have rf0 := (bR.c 0 (by decide)).2
      have r1 : U.cell? ⟨w.heap.size + 3, 1, none⟩ = some (.slice none 0 0) := (bR.c 1 (by decide)).1
      have rf1 := (bR.c 1 (by decide)).2
      have r2 : U.cell? ⟨w.heap.size + 3, 2, none⟩ = some (.slice none 0 0) := (bR.c 2 (by decide)).1
      have rf2 := (bR.c 2 (by decide)).2
      have r3 : U.cell? ⟨w.heap.size + 3, 3, none⟩ = some (.slice none 0 0) := (bR.c 3 (by decide)).1
      have rf3 := (bR.c 3 (by decide)).2
      have r4 : U.cell? ⟨w.heap.size + 3, 4, none⟩ = some (.slice none 0 0) := (bR.c 4 (by decide)).1
      have rf4 := (bR.c 4 (by decide)).2
      have r5 : U.cell? ⟨w.heap.size + 3, 5, none⟩ = some (.int .i64 0) := (bR.c 5 (by decide)).1
      have rf5 := (bR.c 5 (by decide)).2
      have r6 : U.cell? ⟨w.heap.size + 3, 6, none⟩ = some (.int .i64 0) := (bR.c 6 (by decide)).1
      have rf6 := (bR.c 6 (by decide)).2
      have zr := bR.lt
      go_wp2_with (go_at_call 15; refine (HKw.out _).mono ?_; rintro e u1 ⟨rfl, hu1⟩; rw [hu1]; clear hu1)
      clear r0 r1 r2 r3 r4 r5 r6 rf0 rf1 rf2 rf3 rf4 rf5 rf6 d5
      obtain ⟨Y, eY⟩ : ∃ Y, Y = set7 U (w.heap.size + 3) (.int .i64 0) (.slice none 0 0) (.slice none 0 0) (.slice none 0 0) (.slice none 0 0) (.int .i64 0) (.int .i64 0) := ⟨_, rfl⟩
      have bF : BoxN Y (w.heap.size + 3) 7 [.int .i64 0, .slice none 0 0, .slice none 0 0, .slice none 0 0, .slice none 0 0, .int .i64 0, .int .i64 0] := by
        rw [eY]
        exact ((((((bR.set 0 (by decide) _).set 1 (by decide) _).set 2 (by decide) _).set 3 (by decide) _).set 4 (by decide) _).set 5 (by decide) _).set 6 (by decide) _
      have hF := HNil.out U 3 (hbU) HEn.out HC.out
      rw [← eY] at hF
      have k0 : Y.cell? ⟨w.heap.size + 3, 0, none⟩ = some (.int .i64 0) := (bF.c 0 (by decide)).1
      have k1 : Y.cell? ⟨w.heap.size + 3, 1, none⟩ = some (.slice none 0 0) := (bF.c 1 (by decide)).1
      have k2 : Y.cell? ⟨w.heap.size + 3, 2, none⟩ = some (.slice none 0 0) := (bF.c 2 (by decide)).1
      have k3 : Y.cell? ⟨w.heap.size + 3, 3, none⟩ = some (.slice none 0 0) := (bF.c 3 (by decide)).1
      have k4 : Y.cell? ⟨w.heap.size + 3, 4, none⟩ = some (.slice none 0 0) := (bF.c 4 (by decide)).1
      have k5 : Y.cell? ⟨w.heap.size + 3, 5, none⟩ = some (.int .i64 0) := (bF.c 5 (by decide)).1
      have k6 : Y.cell? ⟨w.heap.size + 3, 6, none⟩ = some (.int .i64 0) := (bF.c 6 (by decide)).1
      unfold set7 at eY
      rw [← eY]
      clear eY
      exact bodyPost_ret (v := .tuple #[.agg #[.int .i64 0, .slice none 0 0, .slice none 0 0, .slice none 0 0, .slice none 0 0, .int .i64 0, .int .i64 0], .int .i64 3]) (by simp [results, Try.results6, go_sem, k0, k1, k2, k3, k4, k5, k6]) rfl hF
    | true =>
      have HC : Hid (clErr ⟨s, ls, p, l, me⟩ next js kind = 0) := by show _ = _; rw [HE.out]; rfl
      have HKn : 1 ≤ kind ∧ kind ≤ 5 := by
        have := eKK.symm
        simpa [inR] using this
      clear HE eKK HNil
      /- what comes of a turn -/
      have HFin : Hid (∀ (U X : World) (q : Nat) (V : CkV) (ix : List (Nat × Nat)) (more : List Rw), Below W.heap.size W U → Clerk U X U.heap.size q V ix more → RecsIn V.rs more → V.tn = (tn0 next js).call ⟨s, ls, p, l, me⟩ room ⟨kind, n, label, key, value⟩ → CallIs w (set7 X (w.heap.size + 3) (.int .i64 V.next) (.slice V.ja V.jl V.jc) (.slice V.ma V.ml V.mc) (.slice V.ra V.rl V.rc) (.slice V.pa V.pl V.pc) (.int .i64 V.sure) (.int .i64 V.com)) ⟨s, ls, p, l, me⟩ next js room ⟨kind, n, label, key, value⟩ (.returned (.tuple #[.agg #[.int .i64 V.next, .slice V.ja V.jl V.jc, .slice V.ma V.ml V.mc, .slice V.ra V.rl V.rc, .slice V.pa V.pl V.pc, .int .i64 V.sure, .int .i64 V.com], .int .i64 0]))) := fun U X q V ix more hU hC hR hT => by
        refine ⟨V.turn, by show _ = Ending.returned (.tuple #[V.turn, .int .i64 (clErr ⟨s, ls, p, l, me⟩ next js kind)]); rw [HC.out]; rfl, V, ix, more, rfl, turn_fin hC hR (HZ.out U hU).1 (by omega) (by have := (HZ.out U hU).2; omega) _ _ _ _ _ _ _, ?_⟩
        unfold CallAns
        simp only [HC.out]
        exact hT
      have hjl : js.length = jl := hj.row.1
      have h10 : ∀ j ∈ js, j.tl ≤ 10 ∧ j.al ≤ 10 := fun j hjm => by
        have h1 := hF j hjm
        have h2 := (hj.each j hjm).tasks.1
        have h3 := (hj.each j hjm).asked.1
        omega
      have HSit : Hid (∀ U, Below W.heap.size W U → Calls Try.prog 16 #[.agg #[.int .i64 s, .slice a len cap, .int .i64 p], .int .i64 l, .int .i64 me, .agg #[.int .i64 next, .slice ja jl jc]] U fun e w' => SitNew U w' e s a len cap p l me next jl js) := fun U hU => sit_any s p a len cap l me next ja jl jc js U (hj.below (HZ.out U hU).1) (by omega) h10
      have HLb : Hid (∀ U, Below W.heap.size W U → IsLabs U a len cap ls) := fun U hU => hl.below (HZ.out U hU).1
      have HFi : Hid (∀ j ∈ js, j.tasks.length ≤ 10 ∧ j.asked.length ≤ 4 ∧ 0 ≤ j.asks ∧ j.asks ≤ 1048576) := hF
      clear hF h10
      go_enter Try.func6, Try.ntmps6
      go_upto_region 1 with (fail)
      rw [← hW]
      clear hW
      obtain ⟨c0, c1, c2, c3, c4, -, -, -, -, -⟩ := KC.out W (Below.refl _ _)
      have z4 := (HZ.out W (Below.refl _ _)).2
      go_upto_region 4 with (go_at_call 14; refine HRf.out.mono ?_; rintro e U ⟨rfl, hbU⟩)
      obtain ⟨d0, d1, d2, d3, d4, d5, -, -, -, -⟩ := KC.out U hbU
      have z4U := (HZ.out U hbU).2
      go_upto_region 7 with (first | (go_at_call 15; refine (HKw.out _).mono ?_; rintro e u1 ⟨rfl, hu1⟩; rw [hu1]; clear hu1) | (go_at_call 16; refine (HSit.out _ hbU).mono ?_; rintro e X ⟨q, ja1, jc1, js1, ix, more, rfl, hC, hbare⟩))
      have HTn : Hid ((⟨s, a, len, cap, p, l, me, next, ja1, jl, jc1, none, 0, 0, none, 0, 0, none, 0, 0, 0, 0, js1, [], [], []⟩ : CkV).tn = tn0 next js) := by show _ = _; unfold CkV.tn tn0; simp only [hbare]; rfl
      have HB : Hid (js1.map JbV.bare = js.map JbV.bare) := hbare
      obtain ⟨v, ev⟩ : ∃ v : CkV, v = ⟨s, a, len, cap, p, l, me, next, ja1, jl, jc1, none, 0, 0, none, 0, 0, none, 0, 0, 0, 0, js1, [], [], []⟩ := ⟨_, rfl⟩
      rw [← ev] at hC HTn
      have HV : Hid (v.js = js1 ∧ v.jl = jl ∧ v.ja = ja1 ∧ v.ml = 0 ∧ v.rl = 0 ∧ v.pl = 0 ∧ v.rs = [] ∧ v.next = next ∧ v.s = s ∧ v.cx ls = ⟨s, ls, p, l, me⟩ ∧ v.me = me ∧ v.l = l) := by rw [ev]; exact ⟨rfl, rfl, rfl, rfl, rfl, rfl, rfl, rfl, rfl, rfl, rfl, rfl⟩
      have HLabs : Hid (Labs U U.heap.size q v ls) := fun U' u iy m' hU' => by
        have : IsLabs U' a len cap ls := (HLb.out U hbU).below hU'.held.bel
        rw [ev]
        exact this
      have HC1 : Hid (Clerk U X U.heap.size q v ix more) := hC
      have HXU : Hid (∀ (X : World) (u : CkV) (ix : List (Nat × Nat)) (more : List Rw), Clerk U X U.heap.size q u ix more → Below W.heap.size W X) := fun X u ix more hX => hbU.trans (hX.held.bel.mono hbU.size)
      clear ev hbare hC d0 d1 d2 d3 d4 d5 HSit HKw HRf HLb c0 c1 c2 c3 c4
      obtain ⟨-, -, -, -, -, d5, d6, d7, d8, d9⟩ := KC.out X (HXU.out _ _ _ _ HC1.out)
      have z4X := (HZ.out X (HXU.out _ _ _ _ HC1.out)).2
      by_cases hk1 : kind = 1
      · subst hk1
        have HBg : Hid (Calls Try.prog 17 #[.pointer (some ⟨q, 0, none⟩), .int .i64 room] X fun e X' => e = .returned (.tuple #[]) ∧ DoneIs U X' U.heap.size q v (v.tn.begun ⟨s, ls, p, l, me⟩ room) (.returned (.tuple #[]))) := by
          have h2 := HV.out
          have := begin_done X HC1.out h2.2.2.2.2.2.2.1 ls room (by rw [h2.2.2.2.2.2.2.2.1]; exact hnx) (by rw [h2.2.1]; omega) (by rw [h2.2.2.2.2.1]; omega) (by rw [h2.2.2.2.2.2.1]; omega)
          rw [h2.2.2.2.2.2.2.2.2.2.1] at this
          refine this.mono ?_
          rintro e u hu
          obtain rfl := hu.1
          exact ⟨rfl, hu⟩
        clear HKn
        go_upto_region 9 with (go_at_call 17; refine HBg.out.mono ?_; rintro e X9 ⟨rfl, h9⟩)
        clear d5 d6 d7 d8 d9 z4X
        obtain ⟨bV, V, ix9, more9, hC9, hR9, hT9, -⟩ := h9
        have hF9 := HFin.out U X9 q V ix9 more9 hbU hC9 hR9 (by rw [hT9]; rw [HTn.out]; rfl)
        have bq := hC9.held.box
        have zq := bq.lt
        have s0 : X9.cell? ⟨q, 5, none⟩ = some (.int .i64 V.next) := (bq.c 5 (by decide)).1
        have s1 : X9.cell? ⟨q, 6, none⟩ = some (.slice V.ja V.jl V.jc) := (bq.c 6 (by decide)).1
        have s2 : X9.cell? ⟨q, 7, none⟩ = some (.slice V.ma V.ml V.mc) := (bq.c 7 (by decide)).1
        have s3 : X9.cell? ⟨q, 8, none⟩ = some (.slice V.ra V.rl V.rc) := (bq.c 8 (by decide)).1
        have s4 : X9.cell? ⟨q, 9, none⟩ = some (.slice V.pa V.pl V.pc) := (bq.c 9 (by decide)).1
        have s5 : X9.cell? ⟨q, 10, none⟩ = some (.int .i64 V.sure) := (bq.c 10 (by decide)).1
        have s6 : X9.cell? ⟨q, 11, none⟩ = some (.int .i64 V.com) := (bq.c 11 (by decide)).1
        have bR := HBox.out X9 (HXU.out _ _ _ _ hC9)
        have r0 : X9.cell? ⟨w.heap.size + 3, 0, none⟩ = some (.int .i64 0) := (bR.c 0 (by decide)).1
        have rf0 := (bR.c 0 (by decide)).2
        have r1 : X9.cell? ⟨w.heap.size + 3, 1, none⟩ = some (.slice none 0 0) := (bR.c 1 (by decide)).1
        have rf1 := (bR.c 1 (by decide)).2
        have r2 : X9.cell? ⟨w.heap.size + 3, 2, none⟩ = some (.slice none 0 0) := (bR.c 2 (by decide)).1
        have rf2 := (bR.c 2 (by decide)).2
        have r3 : X9.cell? ⟨w.heap.size + 3, 3, none⟩ = some (.slice none 0 0) := (bR.c 3 (by decide)).1
        have rf3 := (bR.c 3 (by decide)).2
        have r4 : X9.cell? ⟨w.heap.size + 3, 4, none⟩ = some (.slice none 0 0) := (bR.c 4 (by decide)).1
        have rf4 := (bR.c 4 (by decide)).2
        have r5 : X9.cell? ⟨w.heap.size + 3, 5, none⟩ = some (.int .i64 0) := (bR.c 5 (by decide)).1
        have rf5 := (bR.c 5 (by decide)).2
        have r6 : X9.cell? ⟨w.heap.size + 3, 6, none⟩ = some (.int .i64 0) := (bR.c 6 (by decide)).1
        have rf6 := (bR.c 6 (by decide)).2
        have zr := bR.lt
        clear bq
        go_wp2
        obtain ⟨Y, eY⟩ : ∃ Y, Y = set7 X9 (w.heap.size + 3) (.int .i64 V.next) (.slice V.ja V.jl V.jc) (.slice V.ma V.ml V.mc) (.slice V.ra V.rl V.rc) (.slice V.pa V.pl V.pc) (.int .i64 V.sure) (.int .i64 V.com) := ⟨_, rfl⟩
        have bF : BoxN Y (w.heap.size + 3) 7 [.int .i64 V.next, .slice V.ja V.jl V.jc, .slice V.ma V.ml V.mc, .slice V.ra V.rl V.rc, .slice V.pa V.pl V.pc, .int .i64 V.sure, .int .i64 V.com] := by
          rw [eY]
          exact ((((((bR.set 0 (by decide) _).set 1 (by decide) _).set 2 (by decide) _).set 3 (by decide) _).set 4 (by decide) _).set 5 (by decide) _).set 6 (by decide) _
        rw [← eY] at hF9
        have k0 : Y.cell? ⟨w.heap.size + 3, 0, none⟩ = some (.int .i64 V.next) := (bF.c 0 (by decide)).1
        have k1 : Y.cell? ⟨w.heap.size + 3, 1, none⟩ = some (.slice V.ja V.jl V.jc) := (bF.c 1 (by decide)).1
        have k2 : Y.cell? ⟨w.heap.size + 3, 2, none⟩ = some (.slice V.ma V.ml V.mc) := (bF.c 2 (by decide)).1
        have k3 : Y.cell? ⟨w.heap.size + 3, 3, none⟩ = some (.slice V.ra V.rl V.rc) := (bF.c 3 (by decide)).1
        have k4 : Y.cell? ⟨w.heap.size + 3, 4, none⟩ = some (.slice V.pa V.pl V.pc) := (bF.c 4 (by decide)).1
        have k5 : Y.cell? ⟨w.heap.size + 3, 5, none⟩ = some (.int .i64 V.sure) := (bF.c 5 (by decide)).1
        have k6 : Y.cell? ⟨w.heap.size + 3, 6, none⟩ = some (.int .i64 V.com) := (bF.c 6 (by decide)).1
        unfold set7 at eY
        rw [← eY]
        clear eY
        exact bodyPost_ret (v := .tuple #[.agg #[.int .i64 V.next, .slice V.ja V.jl V.jc, .slice V.ma V.ml V.mc, .slice V.ra V.rl V.rc, .slice V.pa V.pl V.pc, .int .i64 V.sure, .int .i64 V.com], .int .i64 0]) (by simp [results, Try.results6, go_sem, k0, k1, k2, k3, k4, k5, k6]) rfl hF9
      · have hk1' : (kind == 1) = false := by simpa using hk1
        have HJb : Hid (Calls Try.prog 18 #[.pointer (some ⟨q, 0, none⟩), .int .i64 n] X fun e X' => JobIs e v n ∧ Below X.heap.size X X') := job_any X HC1.out n
        have HIx : Hid (idxI (isN n) (tn0 next js).js = idxI (isN n) v.js) := by show _ = _; have h1 := idx_bare n js1; rw [HV.out.1, ← h1, HB.out]; rfl
        have HRep : Hid (∀ (X' : World) (code : Int), Below X.heap.size X X' → Calls Try.prog 20 #[.pointer (some ⟨q, 0, none⟩), .agg #[.int .i64 0, .int .i64 kind, .int .i64 n, .int .i64 key, .int .i64 0, .int .i64 code]] X' fun e X'' => e = .returned (.tuple #[]) ∧ DoneIs U X'' U.heap.size q v ((tn0 next js).rep ⟨s, ls, p, l, me⟩ kind n key 0 code) (.returned (.tuple #[]))) := fun X' code hX' => by
          have h2 := HV.out
          have := reply_done X' (HC1.out.below hX') (by rw [h2.2.2.2.2.2.2.1]; exact recsIn_nil _) ls kind n key 0 code (by rw [h2.2.2.2.2.2.1]; omega)
          rw [h2.2.2.2.2.2.2.2.2.2.1, HTn.out] at this
          refine this.mono ?_
          rintro e u hu
          obtain rfl := hu.1
          exact ⟨rfl, hu⟩
        go_upto_region 11 with (go_at_call 18; refine HJb.out.mono ?_; rintro e X2 ⟨hJob, hb2⟩; rcases hJob with ⟨rfl, hix⟩ | ⟨i, g, rfl, hix, hi, eg⟩)
        · -- there is no such job
          have HIx1 : Hid (idxI (isN n) (tn0 next js).js = -1) := HIx.out.trans hix
          have hX2 := HC1.out.below hb2
          obtain ⟨-, -, -, -, -, e5, e6, e7, e8, e9⟩ := KC.out X2 (HXU.out _ _ _ _ hX2)
          have z4X2 := (HZ.out X2 (HXU.out _ _ _ _ hX2)).2
          have HRn : Hid (Calls Try.prog 19 #[.pointer (some ⟨q, 0, none⟩), .pointer none, .agg #[.int .i64 kind, .int .i64 n, .int .i64 label, .int .i64 key, .int .i64 value]] X2 fun e X' => e = .returned (.int .i64 6) ∧ Below X2.heap.size X2 X') := refuseNone_any q ⟨kind, n, label, key, value⟩ X2
          clear d5 d6 d7 d8 d9 z4X hix hX2
          go_upto_region 13 with (go_at_call 19; refine HRn.out.mono ?_; rintro e X3 ⟨rfl, hb3⟩)
          have hX3 := HC1.out.below (nT hb2 hb3)
          obtain ⟨-, -, -, -, -, d5, d6, d7, d8, d9⟩ := KC.out X3 (HXU.out _ _ _ _ hX3)
          have z4X3 := (HZ.out X3 (HXU.out _ _ _ _ hX3)).2
          have HR1 := HRep.out X3 6 (nT hb2 hb3)
          have HR2 : Hid (Calls Try.prog 20 #[.pointer (some ⟨q, 0, none⟩), .agg #[.int .i64 0, .int .i64 kind, .int .i64 n, .int .i64 key, .int .i64 0, .int .i64 6]] X3 fun e X'' => e = .returned (.tuple #[]) ∧ DoneIs U X'' U.heap.size q v ((tn0 next js).rep ⟨s, ls, p, l, me⟩ kind n key 0 6) (.returned (.tuple #[]))) := HR1
          clear HR1 hX3 e5 e6 e7 e8 e9
          go_upto_region 14 with (go_at_call 20; refine HR2.out.mono ?_; rintro e X9 ⟨rfl, h9⟩)
          clear d5 d6 d7 d8 d9 z4X3 z4X2
          obtain ⟨bV, V, ix9, more9, hC9, hR9, hT9, -⟩ := h9
          have hF9 := HFin.out U X9 q V ix9 more9 hbU hC9 hR9 (by rw [hT9]; unfold Tn.call; rw [if_neg hk1, if_pos HIx1.out])
          have bq := hC9.held.box
          have zq := bq.lt
          have s0 : X9.cell? ⟨q, 5, none⟩ = some (.int .i64 V.next) := (bq.c 5 (by decide)).1
          have s1 : X9.cell? ⟨q, 6, none⟩ = some (.slice V.ja V.jl V.jc) := (bq.c 6 (by decide)).1
          have s2 : X9.cell? ⟨q, 7, none⟩ = some (.slice V.ma V.ml V.mc) := (bq.c 7 (by decide)).1
          have s3 : X9.cell? ⟨q, 8, none⟩ = some (.slice V.ra V.rl V.rc) := (bq.c 8 (by decide)).1
          have s4 : X9.cell? ⟨q, 9, none⟩ = some (.slice V.pa V.pl V.pc) := (bq.c 9 (by decide)).1
          have s5 : X9.cell? ⟨q, 10, none⟩ = some (.int .i64 V.sure) := (bq.c 10 (by decide)).1
          have s6 : X9.cell? ⟨q, 11, none⟩ = some (.int .i64 V.com) := (bq.c 11 (by decide)).1
          have bR := HBox.out X9 (HXU.out _ _ _ _ hC9)
          have r0 : X9.cell? ⟨w.heap.size + 3, 0, none⟩ = some (.int .i64 0) := (bR.c 0 (by decide)).1
          have rf0 := (bR.c 0 (by decide)).2
          have r1 : X9.cell? ⟨w.heap.size + 3, 1, none⟩ = some (.slice none 0 0) := (bR.c 1 (by decide)).1
          have rf1 := (bR.c 1 (by decide)).2
          have r2 : X9.cell? ⟨w.heap.size + 3, 2, none⟩ = some (.slice none 0 0) := (bR.c 2 (by decide)).1
          have rf2 := (bR.c 2 (by decide)).2
          have r3 : X9.cell? ⟨w.heap.size + 3, 3, none⟩ = some (.slice none 0 0) := (bR.c 3 (by decide)).1
          have rf3 := (bR.c 3 (by decide)).2
          have r4 : X9.cell? ⟨w.heap.size + 3, 4, none⟩ = some (.slice none 0 0) := (bR.c 4 (by decide)).1
          have rf4 := (bR.c 4 (by decide)).2
          have r5 : X9.cell? ⟨w.heap.size + 3, 5, none⟩ = some (.int .i64 0) := (bR.c 5 (by decide)).1
          have rf5 := (bR.c 5 (by decide)).2
          have r6 : X9.cell? ⟨w.heap.size + 3, 6, none⟩ = some (.int .i64 0) := (bR.c 6 (by decide)).1
          have rf6 := (bR.c 6 (by decide)).2
          have zr := bR.lt
          clear bq
          go_wp2
          obtain ⟨Y, eY⟩ : ∃ Y, Y = set7 X9 (w.heap.size + 3) (.int .i64 V.next) (.slice V.ja V.jl V.jc) (.slice V.ma V.ml V.mc) (.slice V.ra V.rl V.rc) (.slice V.pa V.pl V.pc) (.int .i64 V.sure) (.int .i64 V.com) := ⟨_, rfl⟩
          have bF : BoxN Y (w.heap.size + 3) 7 [.int .i64 V.next, .slice V.ja V.jl V.jc, .slice V.ma V.ml V.mc, .slice V.ra V.rl V.rc, .slice V.pa V.pl V.pc, .int .i64 V.sure, .int .i64 V.com] := by
            rw [eY]
            exact ((((((bR.set 0 (by decide) _).set 1 (by decide) _).set 2 (by decide) _).set 3 (by decide) _).set 4 (by decide) _).set 5 (by decide) _).set 6 (by decide) _
          rw [← eY] at hF9
          have k0 : Y.cell? ⟨w.heap.size + 3, 0, none⟩ = some (.int .i64 V.next) := (bF.c 0 (by decide)).1
          have k1 : Y.cell? ⟨w.heap.size + 3, 1, none⟩ = some (.slice V.ja V.jl V.jc) := (bF.c 1 (by decide)).1
          have k2 : Y.cell? ⟨w.heap.size + 3, 2, none⟩ = some (.slice V.ma V.ml V.mc) := (bF.c 2 (by decide)).1
          have k3 : Y.cell? ⟨w.heap.size + 3, 3, none⟩ = some (.slice V.ra V.rl V.rc) := (bF.c 3 (by decide)).1
          have k4 : Y.cell? ⟨w.heap.size + 3, 4, none⟩ = some (.slice V.pa V.pl V.pc) := (bF.c 4 (by decide)).1
          have k5 : Y.cell? ⟨w.heap.size + 3, 5, none⟩ = some (.int .i64 V.sure) := (bF.c 5 (by decide)).1
          have k6 : Y.cell? ⟨w.heap.size + 3, 6, none⟩ = some (.int .i64 V.com) := (bF.c 6 (by decide)).1
          unfold set7 at eY
          rw [← eY]
          clear eY
          exact bodyPost_ret (v := .tuple #[.agg #[.int .i64 V.next, .slice V.ja V.jl V.jc, .slice V.ma V.ml V.mc, .slice V.ra V.rl V.rc, .slice V.pa V.pl V.pc, .int .i64 V.sure, .int .i64 V.com], .int .i64 0]) (by simp [results, Try.results6, go_sem, k0, k1, k2, k3, k4, k5, k6]) rfl hF9
        · have HIx1 : Hid (idxI (isN n) (tn0 next js).js = (i : Int)) := HIx.out.trans hix
          have HIx2 : Hid (¬ idxI (isN n) (tn0 next js).js = -1) := by show ¬ _; rw [HIx1.out]; omega
          have HIx3 : Hid ((idxI (isN n) (tn0 next js).js).toNat = i) := by show _ = _; rw [HIx1.out]; omega
          have HJd : Hid ((tn0 next js).js.getD i default = (v.js.getD i default).bare) := by show _ = _; rw [HV.out.1, at_bare HB.out]; exact getD_bare _ _
          have hX2 := HC1.out.below hb2
          have hfit := hX2.fit hi
          have HAr : Hid (callErr (seesB v.s ls v.p v.l label) ⟨kind, n, label, key, value⟩ (v.js.getD i default) = askErr ⟨s, ls, p, l, me⟩ ⟨kind, n, label, key, value⟩ ((tn0 next js).js.getD i default)) := by
            show _ = _
            rw [HJd.out, ← HV.out.2.2.2.2.2.2.2.2.2.1]
            exact ask_err (v.cx ls) ⟨kind, n, label, key, value⟩ _ hfit.1
          have HRn : Hid (Calls Try.prog 19 #[.pointer (some ⟨q, 0, none⟩), .pointer (some ⟨g, i * 6, none⟩), .agg #[.int .i64 kind, .int .i64 n, .int .i64 label, .int .i64 key, .int .i64 value]] X2 fun e X' => e = .returned (.int .i64 (askErr ⟨s, ls, p, l, me⟩ ⟨kind, n, label, key, value⟩ ((tn0 next js).js.getD i default))) ∧ Below X2.heap.size X2 X') := by
            have := refuseCall_any X2 hX2 ls (HLabs.out _ _ _ _ hX2) hi eg ⟨kind, n, label, key, value⟩
            rw [HAr.out] at this
            exact this
          obtain ⟨AE, eAE⟩ : ∃ AE, AE = askErr ⟨s, ls, p, l, me⟩ ⟨kind, n, label, key, value⟩ ((tn0 next js).js.getD i default) := ⟨_, rfl⟩
          rw [← eAE] at HRn
          have HAE : Hid (askErr ⟨s, ls, p, l, me⟩ ⟨kind, n, label, key, value⟩ ((tn0 next js).js.getD i default) = AE) := eAE.symm
          obtain ⟨-, -, -, -, -, e5, e6, e7, e8, e9⟩ := KC.out X2 (HXU.out _ _ _ _ hX2)
          have z4X2 := (HZ.out X2 (HXU.out _ _ _ _ hX2)).2
          clear d5 d6 d7 d8 d9 z4X hix eAE HAr hfit
          by_cases hae : AE = 0
          · subst hae
            clear hX2
            go_upto_region 15 with (go_at_call 19; refine HRn.out.mono ?_; rintro e X3 ⟨rfl, hb3⟩)
            have hb23 := nT hb2 hb3
            have HX3 : Hid (Clerk U X3 U.heap.size q v ix more) := HC1.out.below hb23
            obtain ⟨-, -, -, -, -, d5, d6, d7, d8, d9⟩ := KC.out X3 (HXU.out _ _ _ _ HX3.out)
            have z4X3 := (HZ.out X3 (HXU.out _ _ _ _ HX3.out)).2
            have HTc : Hid ((tn0 next js).call ⟨s, ls, p, l, me⟩ room ⟨kind, n, label, key, value⟩ = if kind = 2 then (tn0 next js).asked i ⟨false, label, key, 0, 0, 0, false, false⟩ ⟨1, me, homeNum s ls p key, me, ((tn0 next js).js.getD i default).n, label, key, 0, 0, ((tn0 next js).js.getD i default).asks + 1, false, 0⟩ else if kind = 3 then (tn0 next js).asked i ⟨true, l, key, value, 0, 0, false, false⟩ ⟨2, me, homeNum s ls p key, me, ((tn0 next js).js.getD i default).n, 0, key, value, 0, ((tn0 next js).js.getD i default).asks + 1, false, 0⟩ else if kind = 4 then (tn0 next js).check ⟨s, ls, p, l, me⟩ i else ((tn0 next js).ended ⟨s, ls, p, l, me⟩ ((tn0 next js).js.getD i default).n ((tn0 next js).js.getD i default).tasks).rep ⟨s, ls, p, l, me⟩ 5 n 0 0 0) := by
              show _ = _
              unfold Tn.call
              rw [if_neg hk1, if_neg HIx2.out, HIx3.out, HAE.out, if_neg (by simp)]
              rfl
            have HFj : Hid ((v.js.getD i default).tl ≤ 10 ∧ 0 ≤ (v.js.getD i default).asks ∧ (v.js.getD i default).asks ≤ 1048576) := by
              have hi2 : i < js.length := by
                have h1 : js1.length = js.length := by simpa using congrArg List.length HB.out
                have h2 := HX3.out.lens.1
                rw [HV.out.1] at h2
                omega
              have h3 := HFi.out _ (mem_at hi2)
              have h4 : (v.js.getD i default).bare = (js.getD i default).bare := by rw [HV.out.1]; exact at_bare HB.out
              have h5 : (v.js.getD i default).bare.asks = (js.getD i default).bare.asks := congrArg JbV.asks h4
              change (v.js.getD i default).asks = (js.getD i default).asks at h5
              have h6 : (v.js.getD i default).bare.tasks = (js.getD i default).bare.tasks := congrArg JbV.tasks h4
              change (v.js.getD i default).tasks = (js.getD i default).tasks at h6
              have h7 := (HX3.out.fit hi).1
              rw [h6] at h7
              rw [h5]
              exact ⟨by omega, h3.2.2.1, h3.2.2.2⟩
            have HN1 : Hid ((v.js.getD i default).n = ((tn0 next js).js.getD i default).n) := by show _ = _; rw [HJd.out]; rfl
            have HN2 : Hid ((v.js.getD i default).asks = ((tn0 next js).js.getD i default).asks) := by show _ = _; rw [HJd.out]; rfl
            have HN3 : Hid ((v.js.getD i default).tasks = ((tn0 next js).js.getD i default).tasks) := by show _ = _; rw [HJd.out]; rfl
            clear e5 e6 e7 e8 e9 HRn HRep HAE
            by_cases hk2 : kind = 2
            · subst hk2
              have HGt : Hid (Calls Try.prog 21 #[.pointer (some ⟨q, 0, none⟩), .pointer (some ⟨g, i * 6, none⟩), .agg #[.int .i64 2, .int .i64 n, .int .i64 label, .int .i64 key, .int .i64 value]] X3 fun e X' => e = .returned (.tuple #[]) ∧ DoneIs U X' U.heap.size q v ((tn0 next js).call ⟨s, ls, p, l, me⟩ room ⟨2, n, label, key, value⟩) (.returned (.tuple #[]))) := by
                have h2 := HV.out
                have := get_done X3 HX3.out h2.2.2.2.2.2.2.1 ls hi eg ⟨2, n, label, key, value⟩ HFj.out.2.1 HFj.out.2.2 (Nat.le_trans HFj.out.1 (by decide)) (by rw [h2.2.2.2.1]; decide) HLabs.out
                rw [HTn.out, h2.2.2.2.2.2.2.2.2.2.1, HN1.out, HN2.out, h2.2.2.2.2.2.2.2.2.2.2.1] at this
                refine this.mono ?_
                rintro e u hu
                obtain rfl := hu.1
                rw [HTc.out]
                exact ⟨rfl, hu⟩
              go_upto_region 25 with (go_at_call 21; refine HGt.out.mono ?_; rintro e X9 ⟨rfl, h9⟩)
              clear d5 d6 d7 d8 d9 z4X3 z4X2
              obtain ⟨bV, V, ix9, more9, hC9, hR9, hT9, -⟩ := h9
              have hF9 := HFin.out U X9 q V ix9 more9 hbU hC9 hR9 (by exact hT9)
              have bq := hC9.held.box
              have zq := bq.lt
              have s0 : X9.cell? ⟨q, 5, none⟩ = some (.int .i64 V.next) := (bq.c 5 (by decide)).1
              have s1 : X9.cell? ⟨q, 6, none⟩ = some (.slice V.ja V.jl V.jc) := (bq.c 6 (by decide)).1
              have s2 : X9.cell? ⟨q, 7, none⟩ = some (.slice V.ma V.ml V.mc) := (bq.c 7 (by decide)).1
              have s3 : X9.cell? ⟨q, 8, none⟩ = some (.slice V.ra V.rl V.rc) := (bq.c 8 (by decide)).1
              have s4 : X9.cell? ⟨q, 9, none⟩ = some (.slice V.pa V.pl V.pc) := (bq.c 9 (by decide)).1
              have s5 : X9.cell? ⟨q, 10, none⟩ = some (.int .i64 V.sure) := (bq.c 10 (by decide)).1
              have s6 : X9.cell? ⟨q, 11, none⟩ = some (.int .i64 V.com) := (bq.c 11 (by decide)).1
              have bR := HBox.out X9 (HXU.out _ _ _ _ hC9)
              have r0 : X9.cell? ⟨w.heap.size + 3, 0, none⟩ = some (.int .i64 0) := (bR.c 0 (by decide)).1
              have rf0 := (bR.c 0 (by decide)).2
              have r1 : X9.cell? ⟨w.heap.size + 3, 1, none⟩ = some (.slice none 0 0) := (bR.c 1 (by decide)).1
              have rf1 := (bR.c 1 (by decide)).2
              have r2 : X9.cell? ⟨w.heap.size + 3, 2, none⟩ = some (.slice none 0 0) := (bR.c 2 (by decide)).1
              have rf2 := (bR.c 2 (by decide)).2
              have r3 : X9.cell? ⟨w.heap.size + 3, 3, none⟩ = some (.slice none 0 0) := (bR.c 3 (by decide)).1
              have rf3 := (bR.c 3 (by decide)).2
              have r4 : X9.cell? ⟨w.heap.size + 3, 4, none⟩ = some (.slice none 0 0) := (bR.c 4 (by decide)).1
              have rf4 := (bR.c 4 (by decide)).2
              have r5 : X9.cell? ⟨w.heap.size + 3, 5, none⟩ = some (.int .i64 0) := (bR.c 5 (by decide)).1
              have rf5 := (bR.c 5 (by decide)).2
              have r6 : X9.cell? ⟨w.heap.size + 3, 6, none⟩ = some (.int .i64 0) := (bR.c 6 (by decide)).1
              have rf6 := (bR.c 6 (by decide)).2
              have zr := bR.lt
              clear bq
              go_wp2
              obtain ⟨Y, eY⟩ : ∃ Y, Y = set7 X9 (w.heap.size + 3) (.int .i64 V.next) (.slice V.ja V.jl V.jc) (.slice V.ma V.ml V.mc) (.slice V.ra V.rl V.rc) (.slice V.pa V.pl V.pc) (.int .i64 V.sure) (.int .i64 V.com) := ⟨_, rfl⟩
              have bF : BoxN Y (w.heap.size + 3) 7 [.int .i64 V.next, .slice V.ja V.jl V.jc, .slice V.ma V.ml V.mc, .slice V.ra V.rl V.rc, .slice V.pa V.pl V.pc, .int .i64 V.sure, .int .i64 V.com] := by
                rw [eY]
                exact ((((((bR.set 0 (by decide) _).set 1 (by decide) _).set 2 (by decide) _).set 3 (by decide) _).set 4 (by decide) _).set 5 (by decide) _).set 6 (by decide) _
              rw [← eY] at hF9
              have k0 : Y.cell? ⟨w.heap.size + 3, 0, none⟩ = some (.int .i64 V.next) := (bF.c 0 (by decide)).1
              have k1 : Y.cell? ⟨w.heap.size + 3, 1, none⟩ = some (.slice V.ja V.jl V.jc) := (bF.c 1 (by decide)).1
              have k2 : Y.cell? ⟨w.heap.size + 3, 2, none⟩ = some (.slice V.ma V.ml V.mc) := (bF.c 2 (by decide)).1
              have k3 : Y.cell? ⟨w.heap.size + 3, 3, none⟩ = some (.slice V.ra V.rl V.rc) := (bF.c 3 (by decide)).1
              have k4 : Y.cell? ⟨w.heap.size + 3, 4, none⟩ = some (.slice V.pa V.pl V.pc) := (bF.c 4 (by decide)).1
              have k5 : Y.cell? ⟨w.heap.size + 3, 5, none⟩ = some (.int .i64 V.sure) := (bF.c 5 (by decide)).1
              have k6 : Y.cell? ⟨w.heap.size + 3, 6, none⟩ = some (.int .i64 V.com) := (bF.c 6 (by decide)).1
              unfold set7 at eY
              rw [← eY]
              clear eY
              exact bodyPost_ret (v := .tuple #[.agg #[.int .i64 V.next, .slice V.ja V.jl V.jc, .slice V.ma V.ml V.mc, .slice V.ra V.rl V.rc, .slice V.pa V.pl V.pc, .int .i64 V.sure, .int .i64 V.com], .int .i64 0]) (by simp [results, Try.results6, go_sem, k0, k1, k2, k3, k4, k5, k6]) rfl hF9
            · have hk2' : (kind == 2) = false := by simpa using hk2
              by_cases hk3 : kind = 3
              · subst hk3
                have HGt : Hid (Calls Try.prog 22 #[.pointer (some ⟨q, 0, none⟩), .pointer (some ⟨g, i * 6, none⟩), .agg #[.int .i64 3, .int .i64 n, .int .i64 label, .int .i64 key, .int .i64 value]] X3 fun e X' => e = .returned (.tuple #[]) ∧ DoneIs U X' U.heap.size q v ((tn0 next js).call ⟨s, ls, p, l, me⟩ room ⟨3, n, label, key, value⟩) (.returned (.tuple #[]))) := by
                  have h2 := HV.out
                  have := put_done X3 HX3.out h2.2.2.2.2.2.2.1 ls hi eg ⟨3, n, label, key, value⟩ HFj.out.2.1 HFj.out.2.2 (Nat.le_trans HFj.out.1 (by decide)) (by rw [h2.2.2.2.1]; decide) HLabs.out
                  rw [HTn.out, h2.2.2.2.2.2.2.2.2.2.1, HN1.out, HN2.out, h2.2.2.2.2.2.2.2.2.2.2.1, h2.2.2.2.2.2.2.2.2.2.2.2] at this
                  refine this.mono ?_
                  rintro e u hu
                  obtain rfl := hu.1
                  rw [HTc.out]
                  exact ⟨rfl, hu⟩
                go_upto_region 25 with (go_at_call 22; refine HGt.out.mono ?_; rintro e X9 ⟨rfl, h9⟩)
                clear d5 d6 d7 d8 d9 z4X3 z4X2
                obtain ⟨bV, V, ix9, more9, hC9, hR9, hT9, -⟩ := h9
                have hF9 := HFin.out U X9 q V ix9 more9 hbU hC9 hR9 (by exact hT9)
                have bq := hC9.held.box
                have zq := bq.lt
                have s0 : X9.cell? ⟨q, 5, none⟩ = some (.int .i64 V.next) := (bq.c 5 (by decide)).1
                have s1 : X9.cell? ⟨q, 6, none⟩ = some (.slice V.ja V.jl V.jc) := (bq.c 6 (by decide)).1
                have s2 : X9.cell? ⟨q, 7, none⟩ = some (.slice V.ma V.ml V.mc) := (bq.c 7 (by decide)).1
                have s3 : X9.cell? ⟨q, 8, none⟩ = some (.slice V.ra V.rl V.rc) := (bq.c 8 (by decide)).1
                have s4 : X9.cell? ⟨q, 9, none⟩ = some (.slice V.pa V.pl V.pc) := (bq.c 9 (by decide)).1
                have s5 : X9.cell? ⟨q, 10, none⟩ = some (.int .i64 V.sure) := (bq.c 10 (by decide)).1
                have s6 : X9.cell? ⟨q, 11, none⟩ = some (.int .i64 V.com) := (bq.c 11 (by decide)).1
                have bR := HBox.out X9 (HXU.out _ _ _ _ hC9)
                have r0 : X9.cell? ⟨w.heap.size + 3, 0, none⟩ = some (.int .i64 0) := (bR.c 0 (by decide)).1
                have rf0 := (bR.c 0 (by decide)).2
                have r1 : X9.cell? ⟨w.heap.size + 3, 1, none⟩ = some (.slice none 0 0) := (bR.c 1 (by decide)).1
                have rf1 := (bR.c 1 (by decide)).2
                have r2 : X9.cell? ⟨w.heap.size + 3, 2, none⟩ = some (.slice none 0 0) := (bR.c 2 (by decide)).1
                have rf2 := (bR.c 2 (by decide)).2
                have r3 : X9.cell? ⟨w.heap.size + 3, 3, none⟩ = some (.slice none 0 0) := (bR.c 3 (by decide)).1
                have rf3 := (bR.c 3 (by decide)).2
                have r4 : X9.cell? ⟨w.heap.size + 3, 4, none⟩ = some (.slice none 0 0) := (bR.c 4 (by decide)).1
                have rf4 := (bR.c 4 (by decide)).2
                have r5 : X9.cell? ⟨w.heap.size + 3, 5, none⟩ = some (.int .i64 0) := (bR.c 5 (by decide)).1
                have rf5 := (bR.c 5 (by decide)).2
                have r6 : X9.cell? ⟨w.heap.size + 3, 6, none⟩ = some (.int .i64 0) := (bR.c 6 (by decide)).1
                have rf6 := (bR.c 6 (by decide)).2
                have zr := bR.lt
                clear bq
                go_wp2
                obtain ⟨Y, eY⟩ : ∃ Y, Y = set7 X9 (w.heap.size + 3) (.int .i64 V.next) (.slice V.ja V.jl V.jc) (.slice V.ma V.ml V.mc) (.slice V.ra V.rl V.rc) (.slice V.pa V.pl V.pc) (.int .i64 V.sure) (.int .i64 V.com) := ⟨_, rfl⟩
                have bF : BoxN Y (w.heap.size + 3) 7 [.int .i64 V.next, .slice V.ja V.jl V.jc, .slice V.ma V.ml V.mc, .slice V.ra V.rl V.rc, .slice V.pa V.pl V.pc, .int .i64 V.sure, .int .i64 V.com] := by
                  rw [eY]
                  exact ((((((bR.set 0 (by decide) _).set 1 (by decide) _).set 2 (by decide) _).set 3 (by decide) _).set 4 (by decide) _).set 5 (by decide) _).set 6 (by decide) _
                rw [← eY] at hF9
                have k0 : Y.cell? ⟨w.heap.size + 3, 0, none⟩ = some (.int .i64 V.next) := (bF.c 0 (by decide)).1
                have k1 : Y.cell? ⟨w.heap.size + 3, 1, none⟩ = some (.slice V.ja V.jl V.jc) := (bF.c 1 (by decide)).1
                have k2 : Y.cell? ⟨w.heap.size + 3, 2, none⟩ = some (.slice V.ma V.ml V.mc) := (bF.c 2 (by decide)).1
                have k3 : Y.cell? ⟨w.heap.size + 3, 3, none⟩ = some (.slice V.ra V.rl V.rc) := (bF.c 3 (by decide)).1
                have k4 : Y.cell? ⟨w.heap.size + 3, 4, none⟩ = some (.slice V.pa V.pl V.pc) := (bF.c 4 (by decide)).1
                have k5 : Y.cell? ⟨w.heap.size + 3, 5, none⟩ = some (.int .i64 V.sure) := (bF.c 5 (by decide)).1
                have k6 : Y.cell? ⟨w.heap.size + 3, 6, none⟩ = some (.int .i64 V.com) := (bF.c 6 (by decide)).1
                unfold set7 at eY
                rw [← eY]
                clear eY
                exact bodyPost_ret (v := .tuple #[.agg #[.int .i64 V.next, .slice V.ja V.jl V.jc, .slice V.ma V.ml V.mc, .slice V.ra V.rl V.rc, .slice V.pa V.pl V.pc, .int .i64 V.sure, .int .i64 V.com], .int .i64 0]) (by simp [results, Try.results6, go_sem, k0, k1, k2, k3, k4, k5, k6]) rfl hF9
              · have hk3' : (kind == 3) = false := by simpa using hk3
                by_cases hk4 : kind = 4
                · subst hk4
                  have HGt : Hid (Calls Try.prog 23 #[.pointer (some ⟨q, 0, none⟩), .pointer (some ⟨g, i * 6, none⟩)] X3 fun e X' => e = .returned (.tuple #[]) ∧ DoneIs U X' U.heap.size q v ((tn0 next js).call ⟨s, ls, p, l, me⟩ room ⟨4, n, label, key, value⟩) (.returned (.tuple #[]))) := by
                    have h2 := HV.out
                    have := check_done X3 HX3.out h2.2.2.2.2.2.2.1 ls hi eg (by rw [h2.2.2.2.2.2.2.2.2.1]; omega) (Nat.le_trans HFj.out.1 (by decide)) (by rw [h2.2.2.2.1]; decide) (by rw [h2.2.2.2.2.1]; decide) (by rw [h2.2.2.2.2.2.1]; decide) HLabs.out
                    rw [HTn.out, h2.2.2.2.2.2.2.2.2.2.1] at this
                    refine this.mono ?_
                    rintro e u hu
                    obtain rfl := hu.1
                    rw [HTc.out]
                    exact ⟨rfl, hu⟩
                  go_upto_region 25 with (go_at_call 23; refine HGt.out.mono ?_; rintro e X9 ⟨rfl, h9⟩)
                  clear d5 d6 d7 d8 d9 z4X3 z4X2
                  obtain ⟨bV, V, ix9, more9, hC9, hR9, hT9, -⟩ := h9
                  have hF9 := HFin.out U X9 q V ix9 more9 hbU hC9 hR9 (by exact hT9)
                  have bq := hC9.held.box
                  have zq := bq.lt
                  have s0 : X9.cell? ⟨q, 5, none⟩ = some (.int .i64 V.next) := (bq.c 5 (by decide)).1
                  have s1 : X9.cell? ⟨q, 6, none⟩ = some (.slice V.ja V.jl V.jc) := (bq.c 6 (by decide)).1
                  have s2 : X9.cell? ⟨q, 7, none⟩ = some (.slice V.ma V.ml V.mc) := (bq.c 7 (by decide)).1
                  have s3 : X9.cell? ⟨q, 8, none⟩ = some (.slice V.ra V.rl V.rc) := (bq.c 8 (by decide)).1
                  have s4 : X9.cell? ⟨q, 9, none⟩ = some (.slice V.pa V.pl V.pc) := (bq.c 9 (by decide)).1
                  have s5 : X9.cell? ⟨q, 10, none⟩ = some (.int .i64 V.sure) := (bq.c 10 (by decide)).1
                  have s6 : X9.cell? ⟨q, 11, none⟩ = some (.int .i64 V.com) := (bq.c 11 (by decide)).1
                  have bR := HBox.out X9 (HXU.out _ _ _ _ hC9)
                  have r0 : X9.cell? ⟨w.heap.size + 3, 0, none⟩ = some (.int .i64 0) := (bR.c 0 (by decide)).1
                  have rf0 := (bR.c 0 (by decide)).2
                  have r1 : X9.cell? ⟨w.heap.size + 3, 1, none⟩ = some (.slice none 0 0) := (bR.c 1 (by decide)).1
                  have rf1 := (bR.c 1 (by decide)).2
                  have r2 : X9.cell? ⟨w.heap.size + 3, 2, none⟩ = some (.slice none 0 0) := (bR.c 2 (by decide)).1
                  have rf2 := (bR.c 2 (by decide)).2
                  have r3 : X9.cell? ⟨w.heap.size + 3, 3, none⟩ = some (.slice none 0 0) := (bR.c 3 (by decide)).1
                  have rf3 := (bR.c 3 (by decide)).2
                  have r4 : X9.cell? ⟨w.heap.size + 3, 4, none⟩ = some (.slice none 0 0) := (bR.c 4 (by decide)).1
                  have rf4 := (bR.c 4 (by decide)).2
                  have r5 : X9.cell? ⟨w.heap.size + 3, 5, none⟩ = some (.int .i64 0) := (bR.c 5 (by decide)).1
                  have rf5 := (bR.c 5 (by decide)).2
                  have r6 : X9.cell? ⟨w.heap.size + 3, 6, none⟩ = some (.int .i64 0) := (bR.c 6 (by decide)).1
                  have rf6 := (bR.c 6 (by decide)).2
                  have zr := bR.lt
                  clear bq
                  go_wp2
                  obtain ⟨Y, eY⟩ : ∃ Y, Y = set7 X9 (w.heap.size + 3) (.int .i64 V.next) (.slice V.ja V.jl V.jc) (.slice V.ma V.ml V.mc) (.slice V.ra V.rl V.rc) (.slice V.pa V.pl V.pc) (.int .i64 V.sure) (.int .i64 V.com) := ⟨_, rfl⟩
                  have bF : BoxN Y (w.heap.size + 3) 7 [.int .i64 V.next, .slice V.ja V.jl V.jc, .slice V.ma V.ml V.mc, .slice V.ra V.rl V.rc, .slice V.pa V.pl V.pc, .int .i64 V.sure, .int .i64 V.com] := by
                    rw [eY]
                    exact ((((((bR.set 0 (by decide) _).set 1 (by decide) _).set 2 (by decide) _).set 3 (by decide) _).set 4 (by decide) _).set 5 (by decide) _).set 6 (by decide) _
                  rw [← eY] at hF9
                  have k0 : Y.cell? ⟨w.heap.size + 3, 0, none⟩ = some (.int .i64 V.next) := (bF.c 0 (by decide)).1
                  have k1 : Y.cell? ⟨w.heap.size + 3, 1, none⟩ = some (.slice V.ja V.jl V.jc) := (bF.c 1 (by decide)).1
                  have k2 : Y.cell? ⟨w.heap.size + 3, 2, none⟩ = some (.slice V.ma V.ml V.mc) := (bF.c 2 (by decide)).1
                  have k3 : Y.cell? ⟨w.heap.size + 3, 3, none⟩ = some (.slice V.ra V.rl V.rc) := (bF.c 3 (by decide)).1
                  have k4 : Y.cell? ⟨w.heap.size + 3, 4, none⟩ = some (.slice V.pa V.pl V.pc) := (bF.c 4 (by decide)).1
                  have k5 : Y.cell? ⟨w.heap.size + 3, 5, none⟩ = some (.int .i64 V.sure) := (bF.c 5 (by decide)).1
                  have k6 : Y.cell? ⟨w.heap.size + 3, 6, none⟩ = some (.int .i64 V.com) := (bF.c 6 (by decide)).1
                  unfold set7 at eY
                  rw [← eY]
                  clear eY
                  exact bodyPost_ret (v := .tuple #[.agg #[.int .i64 V.next, .slice V.ja V.jl V.jc, .slice V.ma V.ml V.mc, .slice V.ra V.rl V.rc, .slice V.pa V.pl V.pc, .int .i64 V.sure, .int .i64 V.com], .int .i64 0]) (by simp [results, Try.results6, go_sem, k0, k1, k2, k3, k4, k5, k6]) rfl hF9
                · have hk4' : (kind == 4) = false := by simpa using hk4
                  have hk5 : kind = 5 := by omega
                  subst hk5
                  obtain ⟨g5, eg5, -, zg5, -, hc5, -⟩ := HX3.out.jobAt (i := i) hi
                  obtain rfl := ptrEq eg eg5
                  have hT5 := HX3.out.isTasks hi
                  have HEd : Hid (Calls Try.prog 24 #[.pointer (some ⟨q, 0, none⟩), (v.js.getD i default).val] X3 fun e X' => e = .returned (.tuple #[]) ∧ DoneIs U X' U.heap.size q v ((tn0 next js).ended ⟨s, ls, p, l, me⟩ ((tn0 next js).js.getD i default).n ((tn0 next js).js.getD i default).tasks) (.returned (.tuple #[]))) := by
                    have h2 := HV.out
                    have := end_done X3 HX3.out h2.2.2.2.2.2.2.1 ls (v.js.getD i default) hT5 (by rw [h2.2.2.2.2.2.2.2.2.1]; omega) (by rw [h2.2.2.2.1]; decide) HLabs.out
                    rw [HTn.out, h2.2.2.2.2.2.2.2.2.2.1, HN1.out, HN3.out] at this
                    refine this.mono ?_
                    rintro e u hu
                    obtain rfl := hu.1
                    exact ⟨rfl, hu⟩
                  obtain ⟨J, eJ⟩ : ∃ J, J = v.js.getD i default := ⟨_, rfl⟩
                  rw [← eJ] at HEd hc5
                  obtain ⟨jn, st, ta, tl, tc, aa, al, ac, asks, age, tasks, asked⟩ := J
                  have j0 := hc5 0 (by decide)
                  have j1 := hc5 1 (by decide)
                  have j2 := hc5 2 (by decide)
                  have j3 := hc5 3 (by decide)
                  have j4 := hc5 4 (by decide)
                  have j5 := hc5 5 (by decide)
                  simp only [JbV.cells, List.getElem?_cons_zero, List.getElem?_cons_succ] at j0 j1 j2 j3 j4 j5
                  rw [Nat.add_zero] at j0
                  simp only [JbV.val] at HEd
                  clear eJ hc5 hT5 eg5
                  go_upto_region 24 with (go_at_call 24; refine HEd.out.mono ?_; rintro e X5 ⟨rfl, h5⟩)
                  obtain ⟨-, V5, ix5, more5, hC5, hR5, hT5, hH5⟩ := h5
                  obtain ⟨-, -, -, -, -, -, e6, -, -, -⟩ := KC.out X5 (HXU.out _ _ _ _ hC5)
                  have z4X5 := (HZ.out X5 (HXU.out _ _ _ _ hC5)).2
                  have HRp : Hid (Calls Try.prog 20 #[.pointer (some ⟨q, 0, none⟩), .agg #[.int .i64 0, .int .i64 5, .int .i64 n, .int .i64 0, .int .i64 0, .int .i64 0]] X5 fun e X' => e = .returned (.tuple #[]) ∧ DoneIs U X' U.heap.size q V5 ((tn0 next js).call ⟨s, ls, p, l, me⟩ room ⟨5, n, label, key, value⟩) (.returned (.tuple #[]))) := by
                    have hps : V5.pl ≤ 1000000 := by
                      have h1 := hC5.lens.2.2.2
                      have h2 := congrArg Tn.ps hT5
                      have h3 : V5.ps = [] := h2
                      rw [h3] at h1
                      simp at h1
                      omega
                    have := reply_done X5 hC5 hR5 ls 5 n 0 0 0 hps
                    have hcx : V5.cx ls = ⟨s, ls, p, l, me⟩ := by
                      obtain ⟨h1, -, -, -, h5, h6, h7⟩ := hH5
                      rw [← HV.out.2.2.2.2.2.2.2.2.2.1]
                      unfold CkV.cx
                      rw [h1, h5, h6, h7]
                    rw [hT5, hcx] at this
                    refine this.mono ?_
                    rintro e u hu
                    obtain rfl := hu.1
                    rw [HTc.out]
                    exact ⟨rfl, hu⟩
                  clear hC5 hR5 hT5 hH5 j0 j1 j2 j3 j4 j5 d5 d6 d7 d8 d9
                  go_upto_region 25 with (go_at_call 20; refine HRp.out.mono ?_; rintro e X9 ⟨rfl, h9⟩)
                  clear e6 z4X5 z4X3 z4X2
                  obtain ⟨bV, V, ix9, more9, hC9, hR9, hT9, -⟩ := h9
                  have hF9 := HFin.out U X9 q V ix9 more9 hbU hC9 hR9 (by exact hT9)
                  have bq := hC9.held.box
                  have zq := bq.lt
                  have s0 : X9.cell? ⟨q, 5, none⟩ = some (.int .i64 V.next) := (bq.c 5 (by decide)).1
                  have s1 : X9.cell? ⟨q, 6, none⟩ = some (.slice V.ja V.jl V.jc) := (bq.c 6 (by decide)).1
                  have s2 : X9.cell? ⟨q, 7, none⟩ = some (.slice V.ma V.ml V.mc) := (bq.c 7 (by decide)).1
                  have s3 : X9.cell? ⟨q, 8, none⟩ = some (.slice V.ra V.rl V.rc) := (bq.c 8 (by decide)).1
                  have s4 : X9.cell? ⟨q, 9, none⟩ = some (.slice V.pa V.pl V.pc) := (bq.c 9 (by decide)).1
                  have s5 : X9.cell? ⟨q, 10, none⟩ = some (.int .i64 V.sure) := (bq.c 10 (by decide)).1
                  have s6 : X9.cell? ⟨q, 11, none⟩ = some (.int .i64 V.com) := (bq.c 11 (by decide)).1
                  have bR := HBox.out X9 (HXU.out _ _ _ _ hC9)
                  have r0 : X9.cell? ⟨w.heap.size + 3, 0, none⟩ = some (.int .i64 0) := (bR.c 0 (by decide)).1
                  have rf0 := (bR.c 0 (by decide)).2
                  have r1 : X9.cell? ⟨w.heap.size + 3, 1, none⟩ = some (.slice none 0 0) := (bR.c 1 (by decide)).1
                  have rf1 := (bR.c 1 (by decide)).2
                  have r2 : X9.cell? ⟨w.heap.size + 3, 2, none⟩ = some (.slice none 0 0) := (bR.c 2 (by decide)).1
                  have rf2 := (bR.c 2 (by decide)).2
                  have r3 : X9.cell? ⟨w.heap.size + 3, 3, none⟩ = some (.slice none 0 0) := (bR.c 3 (by decide)).1
                  have rf3 := (bR.c 3 (by decide)).2
                  have r4 : X9.cell? ⟨w.heap.size + 3, 4, none⟩ = some (.slice none 0 0) := (bR.c 4 (by decide)).1
                  have rf4 := (bR.c 4 (by decide)).2
                  have r5 : X9.cell? ⟨w.heap.size + 3, 5, none⟩ = some (.int .i64 0) := (bR.c 5 (by decide)).1
                  have rf5 := (bR.c 5 (by decide)).2
                  have r6 : X9.cell? ⟨w.heap.size + 3, 6, none⟩ = some (.int .i64 0) := (bR.c 6 (by decide)).1
                  have rf6 := (bR.c 6 (by decide)).2
                  have zr := bR.lt
                  clear bq
                  go_wp2
                  obtain ⟨Y, eY⟩ : ∃ Y, Y = set7 X9 (w.heap.size + 3) (.int .i64 V.next) (.slice V.ja V.jl V.jc) (.slice V.ma V.ml V.mc) (.slice V.ra V.rl V.rc) (.slice V.pa V.pl V.pc) (.int .i64 V.sure) (.int .i64 V.com) := ⟨_, rfl⟩
                  have bF : BoxN Y (w.heap.size + 3) 7 [.int .i64 V.next, .slice V.ja V.jl V.jc, .slice V.ma V.ml V.mc, .slice V.ra V.rl V.rc, .slice V.pa V.pl V.pc, .int .i64 V.sure, .int .i64 V.com] := by
                    rw [eY]
                    exact ((((((bR.set 0 (by decide) _).set 1 (by decide) _).set 2 (by decide) _).set 3 (by decide) _).set 4 (by decide) _).set 5 (by decide) _).set 6 (by decide) _
                  rw [← eY] at hF9
                  have k0 : Y.cell? ⟨w.heap.size + 3, 0, none⟩ = some (.int .i64 V.next) := (bF.c 0 (by decide)).1
                  have k1 : Y.cell? ⟨w.heap.size + 3, 1, none⟩ = some (.slice V.ja V.jl V.jc) := (bF.c 1 (by decide)).1
                  have k2 : Y.cell? ⟨w.heap.size + 3, 2, none⟩ = some (.slice V.ma V.ml V.mc) := (bF.c 2 (by decide)).1
                  have k3 : Y.cell? ⟨w.heap.size + 3, 3, none⟩ = some (.slice V.ra V.rl V.rc) := (bF.c 3 (by decide)).1
                  have k4 : Y.cell? ⟨w.heap.size + 3, 4, none⟩ = some (.slice V.pa V.pl V.pc) := (bF.c 4 (by decide)).1
                  have k5 : Y.cell? ⟨w.heap.size + 3, 5, none⟩ = some (.int .i64 V.sure) := (bF.c 5 (by decide)).1
                  have k6 : Y.cell? ⟨w.heap.size + 3, 6, none⟩ = some (.int .i64 V.com) := (bF.c 6 (by decide)).1
                  unfold set7 at eY
                  rw [← eY]
                  clear eY
                  exact bodyPost_ret (v := .tuple #[.agg #[.int .i64 V.next, .slice V.ja V.jl V.jc, .slice V.ma V.ml V.mc, .slice V.ra V.rl V.rc, .slice V.pa V.pl V.pc, .int .i64 V.sure, .int .i64 V.com], .int .i64 0]) (by simp [results, Try.results6, go_sem, k0, k1, k2, k3, k4, k5, k6]) rfl hF9
          · have hae' : (AE == 0) = false := by simpa using hae
            clear hX2
            go_upto_region 13 with (go_at_call 19; refine HRn.out.mono ?_; rintro e X3 ⟨rfl, hb3⟩)
            have hX3 := HC1.out.below (nT hb2 hb3)
            obtain ⟨-, -, -, -, -, d5, d6, d7, d8, d9⟩ := KC.out X3 (HXU.out _ _ _ _ hX3)
            have z4X3 := (HZ.out X3 (HXU.out _ _ _ _ hX3)).2
            have HR2 : Hid (Calls Try.prog 20 #[.pointer (some ⟨q, 0, none⟩), .agg #[.int .i64 0, .int .i64 kind, .int .i64 n, .int .i64 key, .int .i64 0, .int .i64 AE]] X3 fun e X'' => e = .returned (.tuple #[]) ∧ DoneIs U X'' U.heap.size q v ((tn0 next js).rep ⟨s, ls, p, l, me⟩ kind n key 0 AE) (.returned (.tuple #[]))) := HRep.out X3 AE (nT hb2 hb3)
            clear hX3 e5 e6 e7 e8 e9
            go_upto_region 14 with (go_at_call 20; refine HR2.out.mono ?_; rintro e X9 ⟨rfl, h9⟩)
            clear d5 d6 d7 d8 d9 z4X3 z4X2
            obtain ⟨bV, V, ix9, more9, hC9, hR9, hT9, -⟩ := h9
            have hF9 := HFin.out U X9 q V ix9 more9 hbU hC9 hR9 (by rw [hT9]; unfold Tn.call; rw [if_neg hk1, if_neg HIx2.out, HIx3.out, HAE.out, if_pos hae])
            have bq := hC9.held.box
            have zq := bq.lt
            have s0 : X9.cell? ⟨q, 5, none⟩ = some (.int .i64 V.next) := (bq.c 5 (by decide)).1
            have s1 : X9.cell? ⟨q, 6, none⟩ = some (.slice V.ja V.jl V.jc) := (bq.c 6 (by decide)).1
            have s2 : X9.cell? ⟨q, 7, none⟩ = some (.slice V.ma V.ml V.mc) := (bq.c 7 (by decide)).1
            have s3 : X9.cell? ⟨q, 8, none⟩ = some (.slice V.ra V.rl V.rc) := (bq.c 8 (by decide)).1
            have s4 : X9.cell? ⟨q, 9, none⟩ = some (.slice V.pa V.pl V.pc) := (bq.c 9 (by decide)).1
            have s5 : X9.cell? ⟨q, 10, none⟩ = some (.int .i64 V.sure) := (bq.c 10 (by decide)).1
            have s6 : X9.cell? ⟨q, 11, none⟩ = some (.int .i64 V.com) := (bq.c 11 (by decide)).1
            have bR := HBox.out X9 (HXU.out _ _ _ _ hC9)
            have r0 : X9.cell? ⟨w.heap.size + 3, 0, none⟩ = some (.int .i64 0) := (bR.c 0 (by decide)).1
            have rf0 := (bR.c 0 (by decide)).2
            have r1 : X9.cell? ⟨w.heap.size + 3, 1, none⟩ = some (.slice none 0 0) := (bR.c 1 (by decide)).1
            have rf1 := (bR.c 1 (by decide)).2
            have r2 : X9.cell? ⟨w.heap.size + 3, 2, none⟩ = some (.slice none 0 0) := (bR.c 2 (by decide)).1
            have rf2 := (bR.c 2 (by decide)).2
            have r3 : X9.cell? ⟨w.heap.size + 3, 3, none⟩ = some (.slice none 0 0) := (bR.c 3 (by decide)).1
            have rf3 := (bR.c 3 (by decide)).2
            have r4 : X9.cell? ⟨w.heap.size + 3, 4, none⟩ = some (.slice none 0 0) := (bR.c 4 (by decide)).1
            have rf4 := (bR.c 4 (by decide)).2
            have r5 : X9.cell? ⟨w.heap.size + 3, 5, none⟩ = some (.int .i64 0) := (bR.c 5 (by decide)).1
            have rf5 := (bR.c 5 (by decide)).2
            have r6 : X9.cell? ⟨w.heap.size + 3, 6, none⟩ = some (.int .i64 0) := (bR.c 6 (by decide)).1
            have rf6 := (bR.c 6 (by decide)).2
            have zr := bR.lt
            clear bq
            go_wp2
            obtain ⟨Y, eY⟩ : ∃ Y, Y = set7 X9 (w.heap.size + 3) (.int .i64 V.next) (.slice V.ja V.jl V.jc) (.slice V.ma V.ml V.mc) (.slice V.ra V.rl V.rc) (.slice V.pa V.pl V.pc) (.int .i64 V.sure) (.int .i64 V.com) := ⟨_, rfl⟩
            have bF : BoxN Y (w.heap.size + 3) 7 [.int .i64 V.next, .slice V.ja V.jl V.jc, .slice V.ma V.ml V.mc, .slice V.ra V.rl V.rc, .slice V.pa V.pl V.pc, .int .i64 V.sure, .int .i64 V.com] := by
              rw [eY]
              exact ((((((bR.set 0 (by decide) _).set 1 (by decide) _).set 2 (by decide) _).set 3 (by decide) _).set 4 (by decide) _).set 5 (by decide) _).set 6 (by decide) _
            rw [← eY] at hF9
            have k0 : Y.cell? ⟨w.heap.size + 3, 0, none⟩ = some (.int .i64 V.next) := (bF.c 0 (by decide)).1
            have k1 : Y.cell? ⟨w.heap.size + 3, 1, none⟩ = some (.slice V.ja V.jl V.jc) := (bF.c 1 (by decide)).1
            have k2 : Y.cell? ⟨w.heap.size + 3, 2, none⟩ = some (.slice V.ma V.ml V.mc) := (bF.c 2 (by decide)).1
            have k3 : Y.cell? ⟨w.heap.size + 3, 3, none⟩ = some (.slice V.ra V.rl V.rc) := (bF.c 3 (by decide)).1
            have k4 : Y.cell? ⟨w.heap.size + 3, 4, none⟩ = some (.slice V.pa V.pl V.pc) := (bF.c 4 (by decide)).1
            have k5 : Y.cell? ⟨w.heap.size + 3, 5, none⟩ = some (.int .i64 V.sure) := (bF.c 5 (by decide)).1
            have k6 : Y.cell? ⟨w.heap.size + 3, 6, none⟩ = some (.int .i64 V.com) := (bF.c 6 (by decide)).1
            unfold set7 at eY
            rw [← eY]
            clear eY
            exact bodyPost_ret (v := .tuple #[.agg #[.int .i64 V.next, .slice V.ja V.jl V.jc, .slice V.ma V.ml V.mc, .slice V.ra V.rl V.rc, .slice V.pa V.pl V.pc, .int .i64 V.sure, .int .i64 V.com], .int .i64 0]) (by simp [results, Try.results6, go_sem, k0, k1, k2, k3, k4, k5, k6]) rfl hF9
  · have HC : Hid (clErr ⟨s, ls, p, l, me⟩ next js kind = E) := by show _ = _; rw [HE.out, if_neg hE]
    have HEn : Hid (E ≠ 0) := hE
    have hE' : (E == 0) = false := by simpa using hE
    clear HFine
    go_enter Try.func6, Try.ntmps6
    go_upto_region 1 with (fail)
    rw [← hW]
    clear hW
    obtain ⟨c0, c1, c2, c3, c4, -, -, -, -, -⟩ := KC.out W (Below.refl _ _)
    have z4 := (HZ.out W (Below.refl _ _)).2
    go_upto_region 3 with (go_at_call 14; refine HRf.out.mono ?_; rintro e U ⟨rfl, hbU⟩)
    have bR := HBox.out U (hbU)
    have r0 : U.cell? ⟨w.heap.size + 3, 0, none⟩ = some (.int .i64 0) := (bR.c 0 (by decide)).1
    have rf0 := (bR.c 0 (by decide)).2
    have r1 : U.cell? ⟨w.heap.size + 3, 1, none⟩ = some (.slice none 0 0) := (bR.c 1 (by decide)).1
    have rf1 := (bR.c 1 (by decide)).2
    have r2 : U.cell? ⟨w.heap.size + 3, 2, none⟩ = some (.slice none 0 0) := (bR.c 2 (by decide)).1
    have rf2 := (bR.c 2 (by decide)).2
    have r3 : U.cell? ⟨w.heap.size + 3, 3, none⟩ = some (.slice none 0 0) := (bR.c 3 (by decide)).1
    have rf3 := (bR.c 3 (by decide)).2
    have r4 : U.cell? ⟨w.heap.size + 3, 4, none⟩ = some (.slice none 0 0) := (bR.c 4 (by decide)).1
    have rf4 := (bR.c 4 (by decide)).2
    have r5 : U.cell? ⟨w.heap.size + 3, 5, none⟩ = some (.int .i64 0) := (bR.c 5 (by decide)).1
    have rf5 := (bR.c 5 (by decide)).2
    have r6 : U.cell? ⟨w.heap.size + 3, 6, none⟩ = some (.int .i64 0) := (bR.c 6 (by decide)).1
    have rf6 := (bR.c 6 (by decide)).2
    have zr := bR.lt
    go_wp2
    clear r0 r1 r2 r3 r4 r5 r6 rf0 rf1 rf2 rf3 rf4 rf5 rf6
    obtain ⟨Y, eY⟩ : ∃ Y, Y = set7 U (w.heap.size + 3) (.int .i64 0) (.slice none 0 0) (.slice none 0 0) (.slice none 0 0) (.slice none 0 0) (.int .i64 0) (.int .i64 0) := ⟨_, rfl⟩
    have bF : BoxN Y (w.heap.size + 3) 7 [.int .i64 0, .slice none 0 0, .slice none 0 0, .slice none 0 0, .slice none 0 0, .int .i64 0, .int .i64 0] := by
      rw [eY]
      exact ((((((bR.set 0 (by decide) _).set 1 (by decide) _).set 2 (by decide) _).set 3 (by decide) _).set 4 (by decide) _).set 5 (by decide) _).set 6 (by decide) _
    have hF := HNil.out U E (hbU) HEn.out HC.out
    rw [← eY] at hF
    have k0 : Y.cell? ⟨w.heap.size + 3, 0, none⟩ = some (.int .i64 0) := (bF.c 0 (by decide)).1
    have k1 : Y.cell? ⟨w.heap.size + 3, 1, none⟩ = some (.slice none 0 0) := (bF.c 1 (by decide)).1
    have k2 : Y.cell? ⟨w.heap.size + 3, 2, none⟩ = some (.slice none 0 0) := (bF.c 2 (by decide)).1
    have k3 : Y.cell? ⟨w.heap.size + 3, 3, none⟩ = some (.slice none 0 0) := (bF.c 3 (by decide)).1
    have k4 : Y.cell? ⟨w.heap.size + 3, 4, none⟩ = some (.slice none 0 0) := (bF.c 4 (by decide)).1
    have k5 : Y.cell? ⟨w.heap.size + 3, 5, none⟩ = some (.int .i64 0) := (bF.c 5 (by decide)).1
    have k6 : Y.cell? ⟨w.heap.size + 3, 6, none⟩ = some (.int .i64 0) := (bF.c 6 (by decide)).1
    unfold set7 at eY
    rw [← eY]
    clear eY
    exact bodyPost_ret (v := .tuple #[.agg #[.int .i64 0, .slice none 0 0, .slice none 0 0, .slice none 0 0, .slice none 0 0, .int .i64 0, .int .i64 0], .int .i64 E]) (by simp [results, Try.results6, go_sem, k0, k1, k2, k3, k4, k5, k6]) rfl hF
end Go.Proofs.Ytfhciplckjkflaa.Co
