/- Texts of this claim, one behind the other. -/
import Derived.Test.YtdjnaahkcnklhabDoorM17CommitAsks
import Derived.Test.YtdjnaahkcnklhabDoorM8CommitAsks
import Derived.Deep.RegionLaw
import Derived.Test.YtdjnaahkcnklhabDoorM18CommitAsks
import Derived.Test.YtdjnaahkcnklhabDoorM11CommitAsks
/- coord.add: a task is put behind a job's others, and its ask's number is told. -/
namespace Go.Proofs.YtdjnaahkcnklhabDoor.Co
open Go.ChangeShapes Go.WideShapes Go.ChangeAt Go.RowKit
open Go.Proofs.YtdjnaahkcnklhabDoor.St (BoxN boxn_new own_below grown_setCell IsRow Elem flat flat_append own_isRow)
set_option linter.unusedVariables false

def addJob (j : JbV) (a5 : Option Addr) (c5 : Nat) (t : TkV) : JbV := { j with ta := a5, tl := j.tl + 1, tc := c5, asks := j.asks + 1, age := 0, tasks := j.tasks ++ [{ t with ask := j.asks + 1 }] }
def AddIs (w X' : World) (B q : Nat) (v : CkV) (i : Nat) (t : TkV) (ix : List (Nat × Nat)) (more : List Rw) (e : Ending) : Prop := e = .returned (.int .i64 ((v.js.getD i default).asks + 1)) ∧ ∃ (a5 : Option Addr) (c5 k : Nat) (r : Rw), (∃ y, ix[i]? = some (k, y)) ∧ Clerk w X' B q { v with js := v.js.set i (addJob (v.js.getD i default) a5 c5 t) } ix (more.set k r)
theorem set_getD {α : Type} [Inhabited α] (l : List α) (i : Nat) (x : α) (h : i < l.length) : (l.set i x).getD i default = x := by simp [List.getD, h]
set_option maxRecDepth 100000 in
set_option maxHeartbeats 4000000 in
theorem add_any {w : World} {B q : Nat} {v : CkV} {ix : List (Nat × Nat)} {more : List Rw} (X : World) (h : Clerk w X B q v ix more) {i g : Nat} (hi : i < v.jl) (eg : v.ja = some ⟨g, 0, none⟩) (t : TkV) (h0 : 0 ≤ (v.js.getD i default).asks) (h1 : (v.js.getD i default).asks ≤ 1048576) (hn : ((v.js.getD i default).tl + 1) * 56 ≤ 140737488355328) :
    Calls Tryd.prog 48 #[.pointer (some ⟨g, i * 6, none⟩), t.val] X fun e X' => AddIs w X' B q v i t ix more e := by
  obtain ⟨iT, ET⟩ := tkElem
  obtain ⟨g', eg', hBg, zg, _, hc, hf⟩ := h.jobAt hi
  rw [eg] at eg'
  simp at eg'
  subst eg'
  have hi' : i < v.js.length := by have := h.lens.1; omega
  obtain ⟨j, ej⟩ : ∃ j, j = v.js.getD i default := ⟨_, rfl⟩
  have hX1 := h.jcell hi eg 4 (by decide) (.int .i64 (j.asks + 1)) { j with asks := j.asks + 1 } (by rw [← ej]; rfl) (by rw [← ej]; exact ⟨rfl, rfl, rfl, rfl, rfl, rfl, rfl, rfl⟩)
  obtain ⟨X1, eX1⟩ : ∃ X1, X1 = X.setCell ⟨g, i * 6 + 4, none⟩ (.int .i64 (j.asks + 1)) := ⟨_, rfl⟩
  rw [← eX1] at hX1
  obtain ⟨write, label, key, value, version, ask, done, sure⟩ := t
  obtain ⟨V, eV⟩ : ∃ V : World, V = X1.alloc (.cells #[.bool write, .int .i64 label, .int .i64 key, .int .i64 value, .int .i64 version, .int .i64 (j.asks + 1), .bool done, .bool sure] 87) := ⟨_, rfl⟩
  have bV : Below X1.heap.size X1 V := by rw [eV]; exact (Below.refl _ _).alloc (Nat.le_refl _) _
  have bxV : BoxN V X1.heap.size 8 [.bool write, .int .i64 label, .int .i64 key, .int .i64 value, .int .i64 version, .int .i64 (j.asks + 1), .bool done, .bool sure] := by rw [eV]; exact boxn_new X1 #[.bool write, .int .i64 label, .int .i64 key, .int .i64 value, .int .i64 version, .int .i64 (j.asks + 1), .bool done, .bool sure] 87 8 rfl
  obtain ⟨U, eU⟩ : ∃ U : World, U = (V.alloc (.cells #[.bool write, .int .i64 label, .int .i64 key, .int .i64 value, .int .i64 version, .int .i64 (j.asks + 1), .bool done, .bool sure] 87)).drew := ⟨_, rfl⟩
  have bVU : Below V.heap.size V U := by rw [eU]; exact ((Below.refl _ _).alloc (Nat.le_refl _) _).drew
  have bU : Below X1.heap.size X1 U := bV.trans (bVU.mono bV.size)
  have hU := hX1.below bU
  have hone : IsRow 8 TkV.cells U (some ⟨V.heap.size, 0, none⟩) 1 1 [(⟨write, label, key, value, version, j.asks + 1, done, sure⟩ : TkV)] := by
    rw [eU]
    refine St.IsRow.below ?_ (Below.refl _ _).drew
    exact rowOne (cells := TkV.cells) (k := 8) V #[.bool write, .int .i64 label, .int .i64 key, .int .i64 value, .int .i64 version, .int .i64 (j.asks + 1), .bool done, .bool sure] 87 (⟨write, label, key, value, version, j.asks + 1, done, sure⟩ : TkV) rfl rfl
  rw [← ej] at h0 h1 hn hc
  have hv1 : ({ v with js := v.js.set i { j with asks := j.asks + 1 } } : CkV).js.getD i default = { j with asks := j.asks + 1 } := set_getD _ _ _ hi'
  have hown := (hU.tasksAt (i := i) hi).1
  rw [hv1] at hown
  have HT : Hid (∀ (w5 : World) (a5 : Option Addr) (c5 : Nat), U.grownBy w5 (Value.slice j.ta j.tl j.tc).ownBlock → w5.ownsRow B 87 8 (.slice a5 (j.tl + 1) c5) (j.tl + 1) (flat TkV.cells (j.tasks ++ [⟨write, label, key, value, version, j.asks + 1, done, sure⟩])) → ((Value.slice a5 (j.tl + 1) c5).ownBlock = (Value.slice j.ta j.tl j.tc).ownBlock ∨ (Value.slice a5 (j.tl + 1) c5).ownBlock = some U.heap.size) → ∃ (k : Nat) (r : Rw), (∃ y, ix[i]? = some (k, y)) ∧ Clerk w (w5.setCell ⟨g, i * 6 + 2, none⟩ (.slice a5 (j.tl + 1) c5)) B q { v with js := (v.js.set i { j with asks := j.asks + 1 }).set i (moreTask { j with asks := j.asks + 1 } a5 c5 ⟨write, label, key, value, version, j.asks + 1, done, sure⟩) } ix (more.set k r)) := fun w5 a5 c5 g5 o5 t5 => by
    have := hU.task (i := i) (g := g) hi eg (X' := w5) (a5 := a5) (c5 := c5) (t := ⟨write, label, key, value, version, j.asks + 1, done, sure⟩) (by rw [hv1]; exact g5) (by rw [hv1]; exact o5) (by rw [hv1]; exact t5)
    rw [hv1] at this
    exact this
  have HAP : Hid (some g ≠ (Value.slice j.ta j.tl j.tc).ownBlock) := by
    obtain ⟨x, _, e1, _⟩ := hU.jobs.at (i := i) (by simpa using hi')
    rw [hv1] at e1
    rcases hU.held.own.ap 0 (4 + x.1) _ _ (show _ = some (⟨59, 6, .slice v.ja v.jl v.jc, v.jl, _⟩ : Rw) from rfl) (more_get e1) (by omega) with e | e
    · rw [eg] at e; simp [Value.ownBlock] at e
    · rw [eg] at e; exact e
  obtain ⟨g2, eg2, _, zgU, _, hcU, hfU⟩ := hU.jobAt (i := i) hi
  have e3 : g = g2 := by
    have : ({ v with js := v.js.set i { j with asks := j.asks + 1 } } : CkV).ja = v.ja := rfl
    rw [this, eg] at eg2
    simpa using eg2
  subst e3
  rw [hv1] at hcU
  have u2 := hcU 2 (by decide)
  have v2 := hfU 2 (by decide)
  have u5 := hcU 5 (by decide)
  have v5 := hfU 5 (by decide)
  obtain ⟨g3, eg3, _, zg1, _, hc1, _⟩ := hX1.jobAt (i := i) hi
  have e4 : g = g3 := by
    have : ({ v with js := v.js.set i { j with asks := j.asks + 1 } } : CkV).ja = v.ja := rfl
    rw [this, eg] at eg3
    simpa using eg3
  subst e4
  rw [hv1] at hc1
  have y2 := (bV.cell (p := ⟨g, i * 6 + 2, none⟩) zg1).trans (hc1 2 (by decide))
  have eSz : X1.heap.size = X.heap.size := by rw [eX1]; simp
  have HAB : Hid (some X.heap.size ≠ (Value.slice j.ta j.tl j.tc).ownBlock) := by
    show _ ≠ _
    intro e
    have o1 := (hX1.tasksAt (i := i) hi).1
    rw [hv1] at o1
    have := (o1.lt X.heap.size e.symm).2
    omega
  have ub : U.cell? ⟨X.heap.size, 5, none⟩ = some (.int .i64 (j.asks + 1)) := by rw [← eSz]; exact ((bxV.below bVU bxV.lt).c 5 (by decide)).1
  have HFin : Hid (∀ (w5 : World) (a5 : Option Addr) (c5 : Nat), U.grownBy w5 (Value.slice j.ta j.tl j.tc).ownBlock → w5.ownsRow B 87 8 (.slice a5 (j.tl + 1) c5) (j.tl + 1) (flat TkV.cells (j.tasks ++ [⟨write, label, key, value, version, j.asks + 1, done, sure⟩])) → ((Value.slice a5 (j.tl + 1) c5).ownBlock = (Value.slice j.ta j.tl j.tc).ownBlock ∨ (Value.slice a5 (j.tl + 1) c5).ownBlock = some U.heap.size) → AddIs w ((w5.setCell ⟨g, i * 6 + 2, none⟩ (.slice a5 (j.tl + 1) c5)).setCell ⟨g, i * 6 + 5, none⟩ (.int .i64 0)) B q v i ⟨write, label, key, value, version, ask, done, sure⟩ ix more (.returned (.int .i64 (j.asks + 1)))) := fun w5 a5 c5 g5 o5 t5 => by
    obtain ⟨kx, rx, hkx, hM⟩ := HT.out w5 a5 c5 g5 o5 t5
    have hset : (v.js.set i { j with asks := j.asks + 1 }).set i (moreTask { j with asks := j.asks + 1 } a5 c5 ⟨write, label, key, value, version, j.asks + 1, done, sure⟩) = v.js.set i (moreTask { j with asks := j.asks + 1 } a5 c5 ⟨write, label, key, value, version, j.asks + 1, done, sure⟩) := by rw [List.set_set]
    rw [hset] at hM
    have hv2 : (v.js.set i (moreTask { j with asks := j.asks + 1 } a5 c5 ⟨write, label, key, value, version, j.asks + 1, done, sure⟩)).getD i default = moreTask { j with asks := j.asks + 1 } a5 c5 ⟨write, label, key, value, version, j.asks + 1, done, sure⟩ := set_getD _ _ _ hi'
    have hA := hM.jcell (i := i) (g := g) hi eg 5 (by decide) (.int .i64 0) (addJob j a5 c5 ⟨write, label, key, value, version, ask, done, sure⟩) (by simp only []; rw [hv2]; rfl) (by simp only []; rw [hv2]; exact ⟨rfl, rfl, rfl, rfl, rfl, rfl, rfl, rfl⟩)
    refine ⟨by rw [← ej], a5, c5, kx, rx, hkx, ?_⟩
    rw [← ej]
    simp only [List.set_set] at hA
    exact hA
  have c4 := hc 4 (by decide)
  have c2 := hc 2 (by decide)
  have f4 := hf 4 (by decide)
  simp only [JbV.cells, List.getElem?_cons_zero, List.getElem?_cons_succ] at c4 c2 u2 u5 y2
  have hBU : B ≤ U.heap.size := Nat.le_of_lt (Nat.lt_of_le_of_lt hBg zgU)
  have Hn : Hid ((j.tl + 1) * 56 ≤ 140737488355328) := hn
  have HEJ : Hid (j = v.js.getD i default) := ej
  have hwr : wrap64 (j.asks + 1) = j.asks + 1 := by unfold wrap64; omega
  simp only [TkV.val]
  clear hc hf hn hcU hfU hX1 hU h ej
  go_enter Tryd.func48, Tryd.ntmps48
  go_upto_region 3 with (fail)
  rw [← eX1, ← eV]
  have zV := bxV.lt
  have zgV := Nat.lt_of_lt_of_le zg1 bV.size
  rw [eSz] at bxV zV
  have b0 : V.cell? ⟨X.heap.size, 0, none⟩ = some (.bool write) := (bxV.c 0 (by decide)).1
  have b1 : V.cell? ⟨X.heap.size, 1, none⟩ = some (.int .i64 label) := (bxV.c 1 (by decide)).1
  have b2 : V.cell? ⟨X.heap.size, 2, none⟩ = some (.int .i64 key) := (bxV.c 2 (by decide)).1
  have b3 : V.cell? ⟨X.heap.size, 3, none⟩ = some (.int .i64 value) := (bxV.c 3 (by decide)).1
  have b4 : V.cell? ⟨X.heap.size, 4, none⟩ = some (.int .i64 version) := (bxV.c 4 (by decide)).1
  have b5 : V.cell? ⟨X.heap.size, 5, none⟩ = some (.int .i64 (j.asks + 1)) := (bxV.c 5 (by decide)).1
  have b6 : V.cell? ⟨X.heap.size, 6, none⟩ = some (.bool done) := (bxV.c 6 (by decide)).1
  have b7 : V.cell? ⟨X.heap.size, 7, none⟩ = some (.bool sure) := (bxV.c 7 (by decide)).1
  clear eX1 c4 c2 f4 HT eV eSz zg1 bxV hc1
  go_region_law (rw [← eU]; refine St.step_append_row ET (by rfl) (.tmp 21) (.tmp 23) (by rfl) B (.slice j.ta j.tl j.tc) j.tl j.tasks (by rfl) hown _ 1 1 [(⟨write, label, key, value, version, j.asks + 1, done, sure⟩ : TkV)] (by rfl) hone (by have := Hn.out; unfold maxLen; omega) (by exact Hn.out) hBU ?_; intro a5 c5 w5 own5 gr5 at5; have p2 := gr5.cell u2 HAP.out; have p5 := gr5.cell u5 HAP.out; have pb := gr5.cell ub HAB.out; have pf2 := (World.frozen?_of_block (a := ⟨g, i * 6 + 2, none⟩) (gr5.block g zgU HAP.out)).trans v2; have pf5 := (World.frozen?_of_block (a := ⟨g, i * 6 + 5, none⟩) (gr5.block g zgU HAP.out)).trans v5; have zq5 := Nat.lt_of_lt_of_le zgU gr5.size; have hF := HFin.out w5 a5 c5 gr5 own5 at5)
  all_goals
    go_wp2
    go_ret
    exact hF
end Go.Proofs.YtdjnaahkcnklhabDoor.Co
/- The clerk's commit: it is replied, written and told; the job is kept until all know. -/
namespace Go.Proofs.YtdjnaahkcnklhabDoor.Co
open Go.ChangeShapes Go.WideShapes Go.ChangeAt Go.RowKit
open Go.Proofs.YtdjnaahkcnklhabDoor.St (BoxN boxn_new own_below grown_setCell IsRow Elem flat flat_append own_isRow)
set_option linter.unusedVariables false

def comRc (me n : Int) (sa : Option Addr) (sc : Nat) (H : List Int) : RcV := ⟨3, me, n, 0, 0, 0, false, sa, H.length, sc, H⟩
def toldJob (j : JbV) (aa : Option Addr) (ac : Nat) (H : List Int) : JbV := { j with state := 3, aa := aa, al := H.length, ac := ac, age := 0, asked := H }
/-- The clerk behind a commit of the i-th job whose hands are H; rs: what is written. -/
def comV (v : CkV) (i : Nat) (n : Int) (pa : Option Addr) (pc : Nat) (ra : Option Addr) (rc : Nat) (ma : Option Addr) (mc : Nat) (aa : Option Addr) (ac : Nat) (rs : List RcV) (H : List Int) : CkV := { v with com := n, pa := pa, pl := v.pl + 1, pc := pc, ps := v.ps ++ [⟨v.me, 4, n, 0, 0, 0⟩], ra := ra, rl := v.rl + rs.length, rc := rc, rs := v.rs ++ rs, js := v.js.set i (toldJob (v.js.getD i default) aa ac H), ma := ma, ml := v.ml + H.length, mc := mc, ms := v.ms ++ H.map (decM v.me n true) }
def goneV (v : CkV) (n : Int) (pa : Option Addr) (pc : Nat) : CkV := { v with com := n, pa := pa, pl := v.pl + 1, pc := pc, ps := v.ps ++ [⟨v.me, 4, n, 0, 0, 0⟩], jl := (kept n v.js).length, js := kept n v.js }
def ComIs (w X' : World) (B q : Nat) (v : CkV) (i : Nat) (n : Int) (H : List Int) (wr : Bool) (e : Ending) : Prop :=
  e = .returned (.tuple #[]) ∧ (H = [] → ∃ pa pc ix more, Clerk w X' B q (goneV v n pa pc) ix more) ∧ (H ≠ [] → ∃ pa pc ra rc ma mc aa ac sa sc ix more, Clerk w X' B q (comV v i n pa pc ra rc ma mc aa ac (if wr = true then [comRc v.me n sa sc H] else []) H) ix more ∧ (wr = true → ∃ k : Nat, more[k]? = some (siteRow sa H.length sc H)))
theorem ptrEq {g g2 : Nat} {a : Option Addr} (e1 : a = some ⟨g, 0, none⟩) (e2 : a = some ⟨g2, 0, none⟩) : g = g2 := by
  rw [e1] at e2
  simpa using e2
set_option maxRecDepth 100000 in
set_option maxHeartbeats 4000000 in
theorem commit_any {w : World} {B q : Nat} {v : CkV} {ix : List (Nat × Nat)} {more : List Rw} (X : World) (h : Clerk w X B q v ix more) (ls : List (Int × Int)) {i g : Nat} (hi : i < v.jl) (eg : v.ja = some ⟨g, 0, none⟩) (hs : v.s ≤ 1048576) (hm : (v.ml + 1048577) * 96 ≤ 140737488355328) (hr : (v.rl + 1) * 80 ≤ 140737488355328) (hp : (v.pl + 1) * 48 ≤ 140737488355328)
    (hL : ∀ (U : World) (u : CkV) (iy : List (Nat × Nat)) (m' : List Rw), Clerk w U B q u iy m' → IsLabs U v.a v.len v.cap ls) :
    Calls Tryd.prog 52 #[.pointer (some ⟨q, 0, none⟩), .pointer (some ⟨g, i * 6, none⟩)] X fun e X' => ComIs w X' B q v i (v.js.getD i default).n (handsOf v.s ls v.p v.l (v.js.getD i default).tasks) ((v.js.getD i default).tasks.any fun t => t.write) e := by
  obtain ⟨g', eg', -, zg, -, hc, -⟩ := h.jobAt hi
  obtain rfl := ptrEq eg eg'
  clear eg'
  have hi' : i < v.js.length := by have := h.lens.1; omega
  have bx := h.held.box
  have zq := bx.lt
  have q11 : X.cell? ⟨q, 11, none⟩ = some (.int .i64 v.com) := (bx.c 11 (by decide)).1
  have f11 := (bx.c 11 (by decide)).2
  have x0 : X.cell? ⟨g, i * 6, none⟩ = some (.int .i64 (v.js.getD i default).n) := by simpa [JbV.cells] using hc 0 (by decide)
  have hX1 := h.com (v.js.getD i default).n
  obtain ⟨R, eR⟩ : ∃ R, R = handsOf v.s ls v.p v.l (v.js.getD i default).tasks := ⟨_, rfl⟩
  obtain ⟨WR, eWR⟩ : ∃ b, b = (v.js.getD i default).tasks.any fun t => t.write := ⟨_, rfl⟩
  obtain ⟨JN, eJN⟩ : ∃ JN, JN = (v.js.getD i default).n := ⟨_, rfl⟩
  rw [← eR, ← eWR, ← eJN]
  rw [← eJN] at x0 hX1
  have HLen : Hid (R.length ≤ 1048576) := by
    have := handsTo_len v.s ls v.p v.l (v.js.getD i default).tasks v.s.toNat
    show _ ≤ _
    rw [eR]
    unfold handsOf
    omega
  have HJN : Hid (JN = (v.js.getD i default).n) := eJN
  have Hm : Hid ((v.ml + 1048577) * 96 ≤ 140737488355328) := hm
  have Hr : Hid ((v.rl + 1) * 80 ≤ 140737488355328) := hr
  have Hp : Hid ((v.pl + 1) * 48 ≤ 140737488355328) := hp
  have HL : Hid (∀ (U : World) (u : CkV) (iy : List (Nat × Nat)) (m' : List Rw), Clerk w U B q u iy m' → IsLabs U v.a v.len v.cap ls) := hL
  /- what is known of a job in every later clerk whose jobs are the same -/
  have HJ : Hid (∀ (U : World) (u : CkV) (iy : List (Nat × Nat)) (m' : List Rw), Clerk w U B q u iy m' → u.js = v.js → u.ja = v.ja → u.jl = v.jl → U.cell? ⟨g, i * 6, none⟩ = some (.int .i64 JN) ∧ U.cell? ⟨g, i * 6 + 1, none⟩ = some (.int .i64 (v.js.getD i default).state) ∧ U.cell? ⟨g, i * 6 + 2, none⟩ = some (.slice (v.js.getD i default).ta (v.js.getD i default).tl (v.js.getD i default).tc) ∧ U.cell? ⟨g, i * 6 + 3, none⟩ = some (.slice (v.js.getD i default).aa (v.js.getD i default).al (v.js.getD i default).ac) ∧ U.frozen? ⟨g, i * 6 + 1, none⟩ = false ∧ U.frozen? ⟨g, i * 6 + 3, none⟩ = false ∧ g < U.heap.size ∧ IsTasks U (v.js.getD i default).ta (v.js.getD i default).tl (v.js.getD i default).tc (v.js.getD i default).tasks) := fun U u iy m' hU e1 e2 e3 => by
    obtain ⟨g2, eg2, _, zg2, _, hc2, hf2⟩ := hU.jobAt (i := i) (by rw [e3]; exact hi)
    rw [e2] at eg2
    obtain rfl := ptrEq eg eg2
    have hT := hU.isTasks (i := i) (by rw [e3]; exact hi)
    rw [e1] at hc2 hT
    exact ⟨by rw [HJN.out]; simpa [JbV.cells] using hc2 0 (by decide), by simpa [JbV.cells] using hc2 1 (by decide), by simpa [JbV.cells] using hc2 2 (by decide), by simpa [JbV.cells] using hc2 3 (by decide), hf2 1 (by decide), hf2 3 (by decide), zg2, hT⟩
  have HH : Hid (∀ (U : World) (u : CkV) (iy : List (Nat × Nat)) (m' : List Rw), Clerk w U B q u iy m' → u.s = v.s → u.a = v.a → u.len = v.len → u.cap = v.cap → u.p = v.p → u.l = v.l → u.js = v.js → u.ja = v.ja → u.jl = v.jl → Calls Tryd.prog 54 #[.pointer (some ⟨q, 0, none⟩), .slice (v.js.getD i default).ta (v.js.getD i default).tl (v.js.getD i default).tc] U fun e X' => HandsIs U X' R e) := fun U u iy m' hU e1 e2 e3 e4 e5 e6 e7 e8 e9 => by
    have := hands_any U hU ls (by rw [e2, e3, e4]; exact HL.out _ _ _ _ hU) _ _ _ _ (HJ.out U u iy m' hU e7 e8 e9).2.2.2.2.2.2.2 (by rw [e1]; exact hs)
    rw [e1, e5, e6, ← eR] at this
    exact this
  obtain ⟨X1, eX1⟩ : ∃ X1, X1 = X.setCell ⟨q, 11, none⟩ (.int .i64 JN) := ⟨_, rfl⟩
  rw [← eX1] at hX1
  have HR : Hid (Calls Tryd.prog 23 #[.pointer (some ⟨q, 0, none⟩), .agg #[.int .i64 0, .int .i64 4, .int .i64 JN, .int .i64 0, .int .i64 0, .int .i64 0]] X1 fun e X' => e = .returned (.tuple #[]) ∧ ∃ a5 c5, Clerk w X' B q { v with com := JN, pa := a5, pl := v.pl + 1, pc := c5, ps := v.ps ++ [⟨v.me, 4, JN, 0, 0, 0⟩] } ix more) := reply_any X1 hX1 ⟨0, 4, JN, 0, 0, 0⟩ Hp.out
  obtain ⟨y0, -, -, -, -, -, zg1, -⟩ := HJ.out X1 _ ix more hX1 rfl rfl rfl
  have HCt : Hid (∀ (U : World) (u : CkV) (iy : List (Nat × Nat)) (m' : List Rw), Clerk w U B q u iy m' → u.js = v.js → u.ja = v.ja → u.jl = v.jl → Calls Tryd.prog 61 #[.slice (v.js.getD i default).ta (v.js.getD i default).tl (v.js.getD i default).tc, .func (.func 74) #[] #[]] U fun e w' => e = .returned (.bool WR) ∧ Below U.heap.size U w') := fun U u iy m' hU e1 e2 e3 => by
    have := containsTask_any 74 #[] (fun t => t.write) _ _ _ _ U (HJ.out U u iy m' hU e1 e2 e3).2.2.2.2.2.2.2 (isWrite_asks U)
    rw [← eWR] at this
    exact this
  obtain ⟨J, eJ⟩ : ∃ J, J = v.js.getD i default := ⟨_, rfl⟩
  have HJe : Hid (J = v.js.getD i default) := eJ
  rw [← eJ] at HJ HH HCt
  clear eJN eWR eR hs hm hr hp hL hc bx h hX1 eJ
  go_enter Tryd.func52, Tryd.ntmps52
  go_upto_region 1 with (fail)
  rw [← eX1]
  clear eX1 q11 f11 x0
  go_upto_region 2 with (go_at_call 23; refine HR.out.mono ?_; rintro e w1 ⟨rfl, a5, c5, hC1⟩)
  obtain ⟨y0, -, y2, -, -, -, zg2, -⟩ := HJ.out w1 _ ix more hC1 rfl rfl rfl
  have HH1 := HH.out w1 _ ix more hC1 rfl rfl rfl rfl rfl rfl rfl rfl rfl
  have HH1' : Hid (Calls Tryd.prog 54 #[.pointer (some ⟨q, 0, none⟩), .slice J.ta J.tl J.tc] w1 fun e X' => HandsIs w1 X' R e) := HH1
  clear HH1 HR
  obtain ⟨jn, st, ta, tl, tc, aa, al, ac, asks, age, tasks, asked⟩ := J
  simp only [] at HJ HH HCt HH1' y2
  obtain ⟨N, eN⟩ : ∃ N, N = R.length := ⟨_, rfl⟩
  have HN : Hid (N = R.length) := eN
  have hN : N ≤ 1048576 := by rw [eN]; exact HLen.out
  have HH2 : Hid (Calls Tryd.prog 54 #[.pointer (some ⟨q, 0, none⟩), .slice ta tl tc] w1 fun e X' => ∃ (a : Option Addr) (c : Nat), e = .returned (.slice a N c) ∧ X'.ownsRow w1.heap.size 3 1 (.slice a N c) N (flat inCell R) ∧ Below w1.heap.size w1 X') := by
    refine HH1'.out.mono ?_
    rintro e u ⟨a, c, rfl, h1, h2⟩
    exact ⟨a, c, by rw [HN.out], by rw [HN.out]; exact h1, h2⟩
  clear eN HH1'
  go_upto_region 3 with (go_at_call 54; refine HH2.out.mono ?_; rintro e w2 ⟨ha, hc, rfl, hown, hb2⟩)
  have hC2 := hC1.add (r := siteRow ha N hc R) hb2 hown
  have HFresh : Hid (∀ (i : Nat) (x : Nat × Nat), ix[i]? = some x → x.1 ≠ more.length ∧ x.2 ≠ more.length) := fun i x e => by
    have := hC1.jobs.inn i x e
    omega
  have HC2 : Hid (Clerk w w2 B q { v with com := JN, pa := a5, pl := v.pl + 1, pc := c5, ps := v.ps ++ [⟨v.me, 4, JN, 0, 0, 0⟩] } ix (more ++ [siteRow ha N hc R])) := hC2
  obtain ⟨y0, -, y2, -, -, -, zg3, -⟩ := HJ.out w2 _ ix _ hC2 rfl rfl rfl
  clear HH2 hown hC1 hC2
  by_cases hz : N = 0
  · have hz' : (N : Int) = 0 := by omega
    have HD : Hid (Calls Tryd.prog 55 #[.pointer (some ⟨q, 0, none⟩), .int .i64 JN] w2 fun e X' => ComIs w X' B q v i JN R WR e) := by
      refine (drop_any w2 HC2.out JN).mono ?_
      rintro e u ⟨rfl, ix', h5⟩
      refine ⟨rfl, fun _ => ⟨a5, c5, ix', _, h5⟩, fun hR => absurd (List.length_eq_zero_iff.1 (by rw [← HN.out]; exact hz)) hR⟩
    clear hz HC2
    go_wp2_with (go_at_call 55; refine HD.out.mono ?_; rintro e w5 ⟨rfl, h6⟩)
    exact bodyPost_ret (v := .tuple #[]) (by simp [results, Tryd.results52, go_sem]) rfl ⟨rfl, h6⟩
  · have hz' : ((N : Int) == 0) = false := by simpa using hz
    have HNE : Hid (R ≠ []) := fun e => hz (by rw [HN.out, e]; rfl)
    have HCt2 : Hid (Calls Tryd.prog 61 #[.slice ta tl tc, .func (.func 74) #[] #[]] w2 fun e w' => e = .returned (.bool WR) ∧ Below w2.heap.size w2 w') := HCt.out w2 _ ix _ HC2.out rfl rfl rfl
    clear HCt hz
    cases WR with
    | false =>
      go_upto_region 7 with (go_at_call 61; refine HCt2.out.mono ?_; rintro e U ⟨rfl, hbU⟩)
      have HCU : Hid (Clerk w U B q { v with com := JN, pa := a5, pl := v.pl + 1, pc := c5, ps := v.ps ++ [⟨v.me, 4, JN, 0, 0, 0⟩] } ix (more ++ [siteRow ha N hc R])) := HC2.out.below hbU
      clear HCt2 HH
      -- the job is to be told
      obtain ⟨z0, z1, z2, z3, zf1, zf3, zg4, -⟩ := HJ.out U _ ix _ HCU.out rfl rfl rfl
      have hT1 := HCU.out.jcell (i := i) (g := g) hi eg 1 (by decide) (.int .i64 3) { v.js.getD i default with state := 3 } rfl ⟨rfl, rfl, rfl, rfl, rfl, rfl, rfl, rfl⟩
      obtain ⟨y9, _, hT2⟩ := hT1.asked (i := i) (g := g) hi eg (k := more.length) (aa := ha) (al := N) (ac := hc) (zs := R) (by simp) HFresh.out
      simp only [List.set_set, set_getD _ _ _ hi'] at hT2
      have hT3 := hT2
      have ej9 : (v.js.set i (askedJob { v.js.getD i default with state := 3 } ha N hc R)).getD i default = askedJob { v.js.getD i default with state := 3 } ha N hc R := set_getD _ _ _ hi'
      obtain ⟨V, eV⟩ : ∃ V, V = (U.setCell ⟨g, i * 6 + 1, none⟩ (.int .i64 3)).setCell ⟨g, i * 6 + 3, none⟩ (.slice ha N hc) := ⟨_, rfl⟩
      rw [← eV] at hT3
      have HTell : Hid (Calls Tryd.prog 68 #[.pointer (some ⟨q, 0, none⟩), .pointer (some ⟨g, i * 6, none⟩)] V fun e X' => e = .returned (.tuple #[]) ∧ ComIs w X' B q v i JN R false (.returned (.tuple #[]))) := by
        have h7 := tell_any V hT3 (i := i) (g := g) hi eg (by show (((v.js.set i (askedJob { v.js.getD i default with state := 3 } ha N hc R)).getD i default).asked).length ≤ _; rw [ej9]; exact HLen.out) (by exact Hm.out)
        refine h7.mono ?_
        rintro e u ⟨rfl, ma, mc, h8⟩
        refine ⟨rfl, rfl, fun e => absurd e HNE.out, fun _ => ⟨a5, c5, v.ra, v.rc, ma, mc, ha, hc, none, 0, ix.set i (y9.1, more.length), (more ++ [siteRow ha N hc R]), ?_, ?_⟩⟩
        · have e9 : toldV (ageZero { ({ v with com := JN, pa := a5, pl := v.pl + 1, pc := c5, ps := v.ps ++ [⟨v.me, 4, JN, 0, 0, 0⟩] } : CkV) with js := v.js.set i (askedJob { v.js.getD i default with state := 3 } ha N hc R) } i) ma mc (((v.js.set i (askedJob { v.js.getD i default with state := 3 } ha N hc R)).getD i default).n) true (((v.js.set i (askedJob { v.js.getD i default with state := 3 } ha N hc R)).getD i default).asked) = comV v i JN a5 c5 v.ra v.rc ma mc ha hc (if false = true then [comRc v.me JN none 0 R] else []) R := by
            unfold ageZero toldV comV
            simp only [ej9, List.set_set]
            rw [HJN.out, HN.out]
            first | rfl | (simp [askedJob, toldJob]; done)
          rw [← e9]
          exact h8
        · intro e; cases e
      clear hT1 hT2 hT3 HCU HJ HC2
      go_upto_region 8 with (fail)
      rw [← eV]
      clear eV
      go_wp2_with (go_at_call 68; refine HTell.out.mono ?_; rintro e w9 ⟨rfl, h9⟩)
      exact bodyPost_end (v := .tuple #[]) (by simp [results, Tryd.results52, go_sem]) rfl h9
    | true =>
      go_upto_region 6 with (go_at_call 61; refine HCt2.out.mono ?_; rintro e Y ⟨rfl, hbY⟩)
      have HCY : Hid (Clerk w Y B q { v with com := JN, pa := a5, pl := v.pl + 1, pc := c5, ps := v.ps ++ [⟨v.me, 4, JN, 0, 0, 0⟩] } ix (more ++ [siteRow ha N hc R])) := HC2.out.below hbY
      clear HCt2
      have KC : Hid (∀ U, Below Y.heap.size Y U → U.cell? ⟨g, i * 6, none⟩ = some (.int .i64 JN) ∧ U.cell? ⟨g, i * 6 + 2, none⟩ = some (.slice ta tl tc)) := fun U hU => by
        have := HJ.out U _ ix _ (HCY.out.below hU) rfl rfl rfl
        exact ⟨this.1, this.2.2.1⟩
      have HTx : Hid (∀ U, Below Y.heap.size Y U → Calls Tryd.prog 43 #[.pointer (some ⟨q, 0, none⟩), .int .i64 JN] U fun e X' => e = .returned (.agg #[.int .i64 v.me, .int .i64 JN]) ∧ Below U.heap.size U X') := fun U hU => txn_any U (HCY.out.below hU) JN
      have HHd : Hid (∀ U, Below Y.heap.size Y U → Calls Tryd.prog 54 #[.pointer (some ⟨q, 0, none⟩), .slice ta tl tc] U fun e X' => ∃ (a : Option Addr) (c : Nat), e = .returned (.slice a N c) ∧ X'.ownsRow Y.heap.size 3 1 (.slice a N c) N (flat inCell R) ∧ Below U.heap.size U X') := fun U hU => by
        refine (HH.out U _ ix _ (HCY.out.below hU) rfl rfl rfl rfl rfl rfl rfl rfl rfl).mono ?_
        rintro e u ⟨a, c, rfl, h1, h2⟩
        exact ⟨a, c, by rw [HN.out], by rw [HN.out]; exact own_base h1 hU.size, h2⟩
      obtain ⟨D, eD⟩ : ∃ D : World → Prop, D = fun u => ∃ (sa : Option Addr) (sc : Nat) (a8 : Option Addr) (c8 : Nat), Clerk w u B q { v with com := JN, pa := a5, pl := v.pl + 1, pc := c5, ps := v.ps ++ [⟨v.me, 4, JN, 0, 0, 0⟩], ra := a8, rl := v.rl + 1, rc := c8, rs := v.rs ++ [comRc v.me JN sa sc R] } ix ((more ++ [siteRow ha N hc R]) ++ [siteRow sa N sc R]) := ⟨_, rfl⟩
      have HD : Hid (∀ u, D u → ∃ (sa : Option Addr) (sc : Nat) (a8 : Option Addr) (c8 : Nat), Clerk w u B q { v with com := JN, pa := a5, pl := v.pl + 1, pc := c5, ps := v.ps ++ [⟨v.me, 4, JN, 0, 0, 0⟩], ra := a8, rl := v.rl + 1, rc := c8, rs := v.rs ++ [comRc v.me JN sa sc R] } ix ((more ++ [siteRow ha N hc R]) ++ [siteRow sa N sc R])) := fun u hu => by rw [eD] at hu; exact hu
      have HW : Hid (∀ U (sa : Option Addr) (sc : Nat), Below Y.heap.size Y U → U.ownsRow Y.heap.size 3 1 (.slice sa N sc) N (flat inCell R) → Calls Tryd.prog 42 #[.pointer (some ⟨q, 0, none⟩), .agg #[.int .i64 3, .int .i64 v.me, .int .i64 JN, .int .i64 0, .int .i64 0, .int .i64 0, .bool false, .slice sa N sc]] U fun e X' => e = .returned (.tuple #[]) ∧ D X') := fun U sa sc hU hown => by
        have h7 := HCY.out.add (r := siteRow sa N sc R) hU hown
        have h8 := write_any U h7 (comRc v.me JN sa sc R) Hr.out
        have e8 : (comRc v.me JN sa sc R).val = .agg #[.int .i64 3, .int .i64 v.me, .int .i64 JN, .int .i64 0, .int .i64 0, .int .i64 0, .bool false, .slice sa N sc] := by rw [HN.out]; rfl
        rw [e8] at h8
        refine h8.mono ?_
        rintro e u ⟨rfl, a8, c8, h9⟩
        refine ⟨rfl, ?_⟩
        rw [eD]
        exact ⟨sa, sc, a8, c8, h9⟩
      clear eD HH
      refine wp_region_inv (by kernel_rfl) [40, 41, 42, 43, 44, 45, 46, 47, 48, 49, 50, 51, 52, 53, 54] (fun L T u => ∃ (sa : Option Addr) (sc : Nat), True ∧ (L 0 = true → T 40 = .pointer (some ⟨q, 0, none⟩)) ∧ (L 1 = true → T 41 = .pointer (some ⟨q, 0, none⟩)) ∧ (L 2 = true → T 42 = .pointer (some ⟨g, i * 6, none⟩)) ∧ (L 3 = true → T 43 = .pointer (some ⟨g, i * 6, none⟩)) ∧ (L 4 = true → T 44 = .pointer (some ⟨g, i * 6, none⟩)) ∧ (L 5 = true → T 45 = .int .i64 JN) ∧ (L 6 = true → T 46 = .agg #[.int .i64 v.me, .int .i64 JN]) ∧ (L 7 = true → T 47 = .pointer (some ⟨q, 0, none⟩)) ∧ (L 8 = true → T 48 = .pointer (some ⟨g, i * 6, none⟩)) ∧ (L 9 = true → T 49 = .pointer (some ⟨g, i * 6, none⟩)) ∧ (L 10 = true → T 50 = .pointer (some ⟨g, i * 6 + 2, none⟩)) ∧ (L 11 = true → T 51 = .slice ta tl tc) ∧ (L 12 = true → T 52 = .slice sa N sc) ∧ (L 13 = true → T 53 = .agg #[.int .i64 3, .int .i64 v.me, .int .i64 JN, .int .i64 0, .int .i64 0, .int .i64 0, .bool false, .slice sa N sc]) ∧ (L 14 = false → Below Y.heap.size Y u) ∧ (L 14 = true → D u) ∧ (L 12 = true → L 14 = false → u.ownsRow Y.heap.size 3 1 (.slice sa N sc) N (flat inCell R))) (by decide) (by kernel_rfl) (by kernel_rfl) ?_ ?_ ?_
      · exact ⟨none, 0, trivial, nofun, nofun, nofun, nofun, nofun, nofun, nofun, nofun, nofun, nofun, nofun, nofun, nofun, nofun, fun _ => (Below.refl _ _).drew, nofun, nofun⟩
      · refine ⟨?_, ?_, ?_, ?_, ?_, ?_, ?_, ?_, ?_, ?_, ?_, ?_, ?_, ?_, ?_, trivial⟩
        · rintro L T u hd hk hcl ⟨sa, sc, hb, p0, p1, p2, p3, p4, p5, p6, p7, p8, p9, p10, p11, p12, p13, c1, c2, rw⟩ K hK
          simp only [fr, Act.put, List.setIfInBounds_toArray, List.set_cons_zero, List.set_cons_succ, updO] at hK ⊢
          simp [Region.binds] at hd
          rw [if_pos (by rfl)]
          simp only [Oper.wpv]
          go_simp
          exact hK _ _ ⟨sa, sc, hb, fun _ => rfl, p1, p2, p3, p4, p5, p6, p7, p8, p9, p10, p11, p12, p13, c1, c2, rw⟩
        · rintro L T u hd hk hcl ⟨sa, sc, hb, p0, p1, p2, p3, p4, p5, p6, p7, p8, p9, p10, p11, p12, p13, c1, c2, rw⟩ K hK
          simp only [fr, Act.put, List.setIfInBounds_toArray, List.set_cons_zero, List.set_cons_succ, updO] at hK ⊢
          simp [Region.binds] at hd
          rw [if_pos (by rfl)]
          simp only [Oper.wpv]
          go_simp
          exact hK _ _ ⟨sa, sc, hb, p0, fun _ => rfl, p2, p3, p4, p5, p6, p7, p8, p9, p10, p11, p12, p13, c1, c2, rw⟩
        · rintro L T u hd hk hcl ⟨sa, sc, hb, p0, p1, p2, p3, p4, p5, p6, p7, p8, p9, p10, p11, p12, p13, c1, c2, rw⟩ K hK
          simp only [fr, Act.put, List.setIfInBounds_toArray, List.set_cons_zero, List.set_cons_succ, updO] at hK ⊢
          simp [Region.binds] at hd
          rw [if_pos (by rfl)]
          simp only [Oper.wpv]
          go_simp
          exact hK _ _ ⟨sa, sc, hb, p0, p1, fun _ => rfl, p3, p4, p5, p6, p7, p8, p9, p10, p11, p12, p13, c1, c2, rw⟩
        · rintro L T u hd hk hcl ⟨sa, sc, hb, p0, p1, p2, p3, p4, p5, p6, p7, p8, p9, p10, p11, p12, p13, c1, c2, rw⟩ K hK
          simp only [fr, Act.put, List.setIfInBounds_toArray, List.set_cons_zero, List.set_cons_succ, updO] at hK ⊢
          simp [Region.binds] at hd
          have g2 := p2 (by simp [hd])
          rw [if_pos (by rfl)]
          simp only [Oper.wpv]
          go_simp
          exact hK _ _ ⟨sa, sc, hb, p0, p1, p2, fun _ => rfl, p4, p5, p6, p7, p8, p9, p10, p11, p12, p13, c1, c2, rw⟩
        · rintro L T u hd hk hcl ⟨sa, sc, hb, p0, p1, p2, p3, p4, p5, p6, p7, p8, p9, p10, p11, p12, p13, c1, c2, rw⟩ K hK
          simp only [fr, Act.put, List.setIfInBounds_toArray, List.set_cons_zero, List.set_cons_succ, updO] at hK ⊢
          simp [Region.binds] at hd
          have g3 := p3 (by simp [hd])
          rw [if_pos (by rfl)]
          simp only [Oper.wpv]
          go_simp
          exact hK _ _ ⟨sa, sc, hb, p0, p1, p2, p3, fun _ => rfl, p5, p6, p7, p8, p9, p10, p11, p12, p13, c1, c2, rw⟩
        · rintro L T u hd hk hcl ⟨sa, sc, hb, p0, p1, p2, p3, p4, p5, p6, p7, p8, p9, p10, p11, p12, p13, c1, c2, rw⟩ K hK
          simp only [fr, Act.put, List.setIfInBounds_toArray, List.set_cons_zero, List.set_cons_succ, updO] at hK ⊢
          simp [Region.binds] at hd
          have g4 := p4 (by simp [hd])
          have k14 := hcl 14 _ rfl
          simp [Region.binds] at k14
          have k13 := hcl 13 _ rfl
          simp [Region.binds] at k13
          have k6 := hcl 6 _ rfl
          simp [Region.binds] at k6
          have hE : L 14 = false := by cases h : L 14 with | false => rfl | true => have a14 := k14 h; have a13 := k13 (by simp [a14]); have a6 := k6 (by simp [a13]); simp [hk] at a6
          obtain ⟨xn, xt⟩ := KC.out u (c1 hE)
          rw [if_pos (by rfl)]
          simp only [Oper.wpv]
          go_simp
          exact hK _ _ ⟨sa, sc, hb, p0, p1, p2, p3, p4, fun _ => rfl, p6, p7, p8, p9, p10, p11, p12, p13, c1, c2, rw⟩
        · rintro L T u hd hk hcl ⟨sa, sc, hb, p0, p1, p2, p3, p4, p5, p6, p7, p8, p9, p10, p11, p12, p13, c1, c2, rw⟩ K hK
          simp only [fr, Act.put, List.setIfInBounds_toArray, List.set_cons_zero, List.set_cons_succ, updO] at hK ⊢
          simp [Region.binds] at hd
          have g1 := p1 (by simp [hd])
          have g5 := p5 (by simp [hd])
          have k14 := hcl 14 _ rfl
          simp [Region.binds] at k14
          have k13 := hcl 13 _ rfl
          simp [Region.binds] at k13
          have hE : L 14 = false := by cases h : L 14 with | false => rfl | true => have a14 := k14 h; have a13 := k13 (by simp [a14]); simp [hk] at a13
          rw [if_pos (by rfl)]
          simp only [Oper.wpv]
          go_simp
          refine (HTx.out _ (c1 hE)).mono ?_
          rintro e u1 ⟨rfl, hg⟩
          exact hK _ _ ⟨sa, sc, hb, p0, p1, p2, p3, p4, p5, fun _ => rfl, p7, p8, p9, p10, p11, p12, p13, fun _ => nT (c1 hE) hg, fun h => absurd (show L 14 = true from h) (by simp [hE]), fun h0 h1 => own_below (rw h0 h1) hg⟩
        · rintro L T u hd hk hcl ⟨sa, sc, hb, p0, p1, p2, p3, p4, p5, p6, p7, p8, p9, p10, p11, p12, p13, c1, c2, rw⟩ K hK
          simp only [fr, Act.put, List.setIfInBounds_toArray, List.set_cons_zero, List.set_cons_succ, updO] at hK ⊢
          simp [Region.binds] at hd
          rw [if_pos (by rfl)]
          simp only [Oper.wpv]
          go_simp
          exact hK _ _ ⟨sa, sc, hb, p0, p1, p2, p3, p4, p5, p6, fun _ => rfl, p8, p9, p10, p11, p12, p13, c1, c2, rw⟩
        · rintro L T u hd hk hcl ⟨sa, sc, hb, p0, p1, p2, p3, p4, p5, p6, p7, p8, p9, p10, p11, p12, p13, c1, c2, rw⟩ K hK
          simp only [fr, Act.put, List.setIfInBounds_toArray, List.set_cons_zero, List.set_cons_succ, updO] at hK ⊢
          simp [Region.binds] at hd
          rw [if_pos (by rfl)]
          simp only [Oper.wpv]
          go_simp
          exact hK _ _ ⟨sa, sc, hb, p0, p1, p2, p3, p4, p5, p6, p7, fun _ => rfl, p9, p10, p11, p12, p13, c1, c2, rw⟩
        · rintro L T u hd hk hcl ⟨sa, sc, hb, p0, p1, p2, p3, p4, p5, p6, p7, p8, p9, p10, p11, p12, p13, c1, c2, rw⟩ K hK
          simp only [fr, Act.put, List.setIfInBounds_toArray, List.set_cons_zero, List.set_cons_succ, updO] at hK ⊢
          simp [Region.binds] at hd
          have g8 := p8 (by simp [hd])
          rw [if_pos (by rfl)]
          simp only [Oper.wpv]
          go_simp
          exact hK _ _ ⟨sa, sc, hb, p0, p1, p2, p3, p4, p5, p6, p7, p8, fun _ => rfl, p10, p11, p12, p13, c1, c2, rw⟩
        · rintro L T u hd hk hcl ⟨sa, sc, hb, p0, p1, p2, p3, p4, p5, p6, p7, p8, p9, p10, p11, p12, p13, c1, c2, rw⟩ K hK
          simp only [fr, Act.put, List.setIfInBounds_toArray, List.set_cons_zero, List.set_cons_succ, updO] at hK ⊢
          simp [Region.binds] at hd
          have g9 := p9 (by simp [hd])
          rw [if_pos (by rfl)]
          simp only [Oper.wpv]
          go_simp
          exact hK _ _ ⟨sa, sc, hb, p0, p1, p2, p3, p4, p5, p6, p7, p8, p9, fun _ => rfl, p11, p12, p13, c1, c2, rw⟩
        · rintro L T u hd hk hcl ⟨sa, sc, hb, p0, p1, p2, p3, p4, p5, p6, p7, p8, p9, p10, p11, p12, p13, c1, c2, rw⟩ K hK
          simp only [fr, Act.put, List.setIfInBounds_toArray, List.set_cons_zero, List.set_cons_succ, updO] at hK ⊢
          simp [Region.binds] at hd
          have g10 := p10 (by simp [hd])
          have k14 := hcl 14 _ rfl
          simp [Region.binds] at k14
          have k13 := hcl 13 _ rfl
          simp [Region.binds] at k13
          have k12 := hcl 12 _ rfl
          simp [Region.binds] at k12
          have hE : L 14 = false := by cases h : L 14 with | false => rfl | true => have a14 := k14 h; have a13 := k13 (by simp [a14]); have a12 := k12 (by simp [a13]); simp [hk] at a12
          obtain ⟨xn, xt⟩ := KC.out u (c1 hE)
          rw [if_pos (by rfl)]
          simp only [Oper.wpv]
          go_simp
          exact hK _ _ ⟨sa, sc, hb, p0, p1, p2, p3, p4, p5, p6, p7, p8, p9, p10, fun _ => rfl, p12, p13, c1, c2, rw⟩
        · rintro L T u hd hk hcl ⟨sa, sc, hb, p0, p1, p2, p3, p4, p5, p6, p7, p8, p9, p10, p11, p12, p13, c1, c2, rw⟩ K hK
          simp only [fr, Act.put, List.setIfInBounds_toArray, List.set_cons_zero, List.set_cons_succ, updO] at hK ⊢
          simp [Region.binds] at hd
          have g7 := p7 (by simp [hd])
          have g11 := p11 (by simp [hd])
          have k13 := hcl 13 _ rfl
          simp [Region.binds] at k13
          have k14 := hcl 14 _ rfl
          simp [Region.binds] at k14
          have k14 := hcl 14 _ rfl
          simp [Region.binds] at k14
          have k13 := hcl 13 _ rfl
          simp [Region.binds] at k13
          have hE : L 14 = false := by cases h : L 14 with | false => rfl | true => have a14 := k14 h; have a13 := k13 (by simp [a14]); simp [hk] at a13
          rw [if_pos (by rfl)]
          simp only [Oper.wpv]
          go_simp
          refine (HHd.out _ (c1 hE)).mono ?_
          rintro e u1 ⟨sa1, sc1, rfl, hrw, hg⟩
          exact hK _ _ ⟨sa1, sc1, hb, p0, p1, p2, p3, p4, p5, p6, p7, p8, p9, p10, p11, fun _ => rfl, fun h => absurd (show L 13 = true from h) (by intro h13; have := k13 h13; simp [hk] at this), fun _ => nT (c1 hE) hg, fun h => absurd (show L 14 = true from h) (by simp [hE]), fun _ _ => hrw⟩
        · rintro L T u hd hk hcl ⟨sa, sc, hb, p0, p1, p2, p3, p4, p5, p6, p7, p8, p9, p10, p11, p12, p13, c1, c2, rw⟩ K hK
          simp only [fr, Act.put, List.setIfInBounds_toArray, List.set_cons_zero, List.set_cons_succ, updO] at hK ⊢
          simp [Region.binds] at hd
          have g6 := p6 (by simp [hd])
          have g12 := p12 (by simp [hd])
          rw [if_pos (by rfl)]
          simp only [Oper.wpv]
          go_simp
          exact hK _ _ ⟨sa, sc, hb, p0, p1, p2, p3, p4, p5, p6, p7, p8, p9, p10, p11, p12, fun _ => rfl, c1, c2, rw⟩
        · rintro L T u hd hk hcl ⟨sa, sc, hb, p0, p1, p2, p3, p4, p5, p6, p7, p8, p9, p10, p11, p12, p13, c1, c2, rw⟩ K hK
          simp only [fr, Act.put, List.setIfInBounds_toArray, List.set_cons_zero, List.set_cons_succ, updO] at hK ⊢
          simp [Region.binds] at hd
          have g0 := p0 (by simp [hd])
          have g13 := p13 (by simp [hd])
          have k13 := hcl 13 _ rfl
          simp [Region.binds] at k13
          have hd13 : L 12 = true := by simp [k13 (by simp [hd])]
          have hE : L 14 = false := hk
          rw [if_pos (by rfl)]
          simp only [Oper.wpv]
          go_simp
          refine (HW.out _ _ _ (c1 hE) (rw (by simp [hd13]) hk)).mono ?_
          rintro e u1 ⟨rfl, hg⟩
          exact hK _ _ ⟨sa, sc, hb, p0, p1, p2, p3, p4, p5, p6, p7, p8, p9, p10, p11, p12, p13, fun h => Bool.noConfusion (show true = false from h), fun _ => hg, fun _ h => Bool.noConfusion (show true = false from h)⟩
      · rintro L T u hl ⟨sa, sc, hb, p0, p1, p2, p3, p4, p5, p6, p7, p8, p9, p10, p11, p12, p13, c1, c2, rw⟩
        simp only [fr, Act.put, List.setIfInBounds_toArray, List.set_cons_zero, List.set_cons_succ]
        obtain ⟨sa9, sc9, a8, c8, hCU⟩ := HD.out _ (c2 (hl 14 (by decide)))
        clear p0 p1 p2 p3 p4 p5 p6 p7 p8 p9 p10 p11 p12 p13 c1 c2 rw sa sc HD HW HHd HTx KC
        obtain ⟨U, eU⟩ : ∃ U : World, U = u := ⟨_, rfl⟩
        rw [← eU] at hCU ⊢
        clear eU u
        have HCU : Hid (Clerk w U B q { v with com := JN, pa := a5, pl := v.pl + 1, pc := c5, ps := v.ps ++ [⟨v.me, 4, JN, 0, 0, 0⟩], ra := a8, rl := v.rl + 1, rc := c8, rs := v.rs ++ [comRc v.me JN sa9 sc9 R] } ix ((more ++ [siteRow ha N hc R]) ++ [siteRow sa9 N sc9 R])) := hCU
        clear hCU D HCY
        -- the job is to be told
        obtain ⟨z0, z1, z2, z3, zf1, zf3, zg4, -⟩ := HJ.out U _ ix _ HCU.out rfl rfl rfl
        have hT1 := HCU.out.jcell (i := i) (g := g) hi eg 1 (by decide) (.int .i64 3) { v.js.getD i default with state := 3 } rfl ⟨rfl, rfl, rfl, rfl, rfl, rfl, rfl, rfl⟩
        obtain ⟨y9, _, hT2⟩ := hT1.asked (i := i) (g := g) hi eg (k := more.length) (aa := ha) (al := N) (ac := hc) (zs := R) (by simp) HFresh.out
        simp only [List.set_set, set_getD _ _ _ hi'] at hT2
        have hT3 := hT2
        have ej9 : (v.js.set i (askedJob { v.js.getD i default with state := 3 } ha N hc R)).getD i default = askedJob { v.js.getD i default with state := 3 } ha N hc R := set_getD _ _ _ hi'
        obtain ⟨V, eV⟩ : ∃ V, V = (U.setCell ⟨g, i * 6 + 1, none⟩ (.int .i64 3)).setCell ⟨g, i * 6 + 3, none⟩ (.slice ha N hc) := ⟨_, rfl⟩
        rw [← eV] at hT3
        have HTell : Hid (Calls Tryd.prog 68 #[.pointer (some ⟨q, 0, none⟩), .pointer (some ⟨g, i * 6, none⟩)] V fun e X' => e = .returned (.tuple #[]) ∧ ComIs w X' B q v i JN R true (.returned (.tuple #[]))) := by
          have h7 := tell_any V hT3 (i := i) (g := g) hi eg (by show (((v.js.set i (askedJob { v.js.getD i default with state := 3 } ha N hc R)).getD i default).asked).length ≤ _; rw [ej9]; exact HLen.out) (by exact Hm.out)
          refine h7.mono ?_
          rintro e u ⟨rfl, ma, mc, h8⟩
          refine ⟨rfl, rfl, fun e => absurd e HNE.out, fun _ => ⟨a5, c5, a8, c8, ma, mc, ha, hc, sa9, sc9, ix.set i (y9.1, more.length), ((more ++ [siteRow ha N hc R]) ++ [siteRow sa9 N sc9 R]), ?_, ?_⟩⟩
          · have e9 : toldV (ageZero { ({ v with com := JN, pa := a5, pl := v.pl + 1, pc := c5, ps := v.ps ++ [⟨v.me, 4, JN, 0, 0, 0⟩], ra := a8, rl := v.rl + 1, rc := c8, rs := v.rs ++ [comRc v.me JN sa9 sc9 R] } : CkV) with js := v.js.set i (askedJob { v.js.getD i default with state := 3 } ha N hc R) } i) ma mc (((v.js.set i (askedJob { v.js.getD i default with state := 3 } ha N hc R)).getD i default).n) true (((v.js.set i (askedJob { v.js.getD i default with state := 3 } ha N hc R)).getD i default).asked) = comV v i JN a5 c5 a8 c8 ma mc ha hc (if true = true then [comRc v.me JN sa9 sc9 R] else []) R := by
              unfold ageZero toldV comV
              simp only [ej9, List.set_set]
              rw [HJN.out, HN.out]
              first | rfl | (simp [askedJob, toldJob]; done)
            rw [← e9]
            exact h8
          · intro _; exact ⟨more.length + 1, by rw [HN.out]; simp⟩
        clear hT1 hT2 hT3 HCU HJ HC2
        go_upto_region 8 with (fail)
        rw [← eV]
        clear eV
        go_wp2_with (go_at_call 68; refine HTell.out.mono ?_; rintro e w9 ⟨rfl, h9⟩)
        exact bodyPost_end (v := .tuple #[]) (by simp [results, Tryd.results52, go_sem]) rfl h9
end Go.Proofs.YtdjnaahkcnklhabDoor.Co
/- The clerk's check: what a job has read is asked after, ahead of committing it. -/
namespace Go.Proofs.YtdjnaahkcnklhabDoor.Co
open Go.ChangeShapes Go.WideShapes Go.ChangeAt Go.RowKit
open Go.Proofs.YtdjnaahkcnklhabDoor.St (BoxN boxn_new own_below grown_setCell IsRow Elem flat flat_append own_isRow)
set_option linter.unusedVariables false

def chkM (s : Int) (ls : List (Int × Int)) (p me n : Int) (t : TkV) : MV := ⟨3, me, homeNum s ls p t.key, me, n, t.label, t.key, 0, t.version, 0, false, 0⟩
def unsure (t : TkV) : Bool := !t.write && !t.sure
def chkMs (s : Int) (ls : List (Int × Int)) (p me n : Int) (ts : List TkV) : List MV := (ts.filter unsure).map (chkM s ls p me n)
theorem chkMs_at {s : Int} {ls : List (Int × Int)} {p me n : Int} {ts : List TkV} {k : Nat} (hk : k < ts.length) : chkMs s ls p me n (ts.take (k + 1)) = chkMs s ls p me n (ts.take k) ++ (if unsure (ts.getD k default) = true then [chkM s ls p me n (ts.getD k default)] else []) := by
  have e1 : ts.take (k + 1) = ts.take k ++ [ts.getD k default] := by rw [List.take_add_one]; simp [List.getD, hk]
  unfold chkMs
  rw [e1, List.filter_append, List.map_append]
  congr 1
  generalize ts.getD k default = t
  cases h : unsure t <;> simp [h]
theorem chkMs_len {s : Int} {ls : List (Int × Int)} {p me n : Int} {ts : List TkV} {k : Nat} : (chkMs s ls p me n (ts.take k)).length ≤ k := by
  unfold chkMs
  rw [List.length_map]
  exact Nat.le_trans (List.length_filter_le _ _) (List.length_take_le _ _)
/-- The clerk while a job's reads are asked after. -/
def chkV (v : CkV) (i : Nat) (n : Int) (ma : Option Addr) (mc : Nat) (ms : List MV) : CkV := { v with sure := n, js := v.js.set i { v.js.getD i default with state := 2, age := 0 }, ma := ma, ml := v.ml + ms.length, mc := mc, ms := v.ms ++ ms }
theorem chk_fit {a b : Nat} (hn : (a + 1048577) * 96 ≤ 140737488355328) (hz : b ≤ 1048576) : (a + b + 1) * 96 ≤ 140737488355328 := fit_nat rfl hn hz
def CheckIs (w X' : World) (B q : Nat) (v : CkV) (i : Nat) (n : Int) (ls : List (Int × Int)) (ix : List (Nat × Nat)) (more : List Rw) (e : Ending) : Prop :=
  e = .returned (.tuple #[]) ∧ (allSure (v.js.getD i default).tasks = true → ComIs w X' B q { v with sure := n } i n (handsOf v.s ls v.p v.l (v.js.getD i default).tasks) ((v.js.getD i default).tasks.any fun t => t.write) (.returned (.tuple #[]))) ∧ (allSure (v.js.getD i default).tasks = false → ∃ ma mc, Clerk w X' B q (chkV v i n ma mc (chkMs v.s ls v.p v.me n (v.js.getD i default).tasks)) ix more)
set_option maxRecDepth 100000 in
set_option maxHeartbeats 4000000 in
theorem check_clerk {w : World} {B q : Nat} {v : CkV} {ix : List (Nat × Nat)} {more : List Rw} (X : World) (h : Clerk w X B q v ix more) (ls : List (Int × Int)) {i g : Nat} (hi : i < v.jl) (eg : v.ja = some ⟨g, 0, none⟩) (hs : v.s ≤ 1048576) (htl : (v.js.getD i default).tl ≤ 1048576) (hm : (v.ml + 1048577) * 96 ≤ 140737488355328) (hr : (v.rl + 1) * 80 ≤ 140737488355328) (hp : (v.pl + 1) * 48 ≤ 140737488355328)
    (hL : ∀ (U : World) (u : CkV) (iy : List (Nat × Nat)) (m' : List Rw), Clerk w U B q u iy m' → IsLabs U v.a v.len v.cap ls) :
    Calls Tryd.prog 26 #[.pointer (some ⟨q, 0, none⟩), .pointer (some ⟨g, i * 6, none⟩)] X fun e X' => CheckIs w X' B q v i (v.js.getD i default).n ls ix more e := by
  obtain ⟨g', eg', -, zg, -, hc, hfz⟩ := h.jobAt hi
  obtain rfl := ptrEq eg eg'
  clear eg'
  have hi' : i < v.js.length := by have := h.lens.1; omega
  have bx := h.held.box
  have zq := bx.lt
  have q10 : X.cell? ⟨q, 10, none⟩ = some (.int .i64 v.sure) := (bx.c 10 (by decide)).1
  have f10 := (bx.c 10 (by decide)).2
  have x0 : X.cell? ⟨g, i * 6, none⟩ = some (.int .i64 (v.js.getD i default).n) := by simpa [JbV.cells] using hc 0 (by decide)
  have hX1 := h.sure (v.js.getD i default).n
  obtain ⟨JN, eJN⟩ : ∃ JN, JN = (v.js.getD i default).n := ⟨_, rfl⟩
  rw [← eJN]
  rw [← eJN] at x0 hX1
  have HJN : Hid (JN = (v.js.getD i default).n) := eJN
  have Hm : Hid ((v.ml + 1048577) * 96 ≤ 140737488355328) := hm
  have HL : Hid (∀ (U : World) (u : CkV) (iy : List (Nat × Nat)) (m' : List Rw), Clerk w U B q u iy m' → IsLabs U v.a v.len v.cap ls) := hL
  obtain ⟨X1, eX1⟩ : ∃ X1, X1 = X.setCell ⟨q, 10, none⟩ (.int .i64 JN) := ⟨_, rfl⟩
  rw [← eX1] at hX1
  have hT1 := hX1.isTasks (i := i) hi
  obtain ⟨g2, eg2, -, zg1, -, hc1, hf1⟩ := hX1.jobAt (i := i) hi
  obtain rfl := ptrEq eg (by exact eg2)
  clear eg2
  have y2 : X1.cell? ⟨g, i * 6 + 2, none⟩ = some (.slice (v.js.getD i default).ta (v.js.getD i default).tl (v.js.getD i default).tc) := by simpa [JbV.cells] using hc1 2 (by decide)
  have HSu : Hid (Calls Tryd.prog 51 #[.slice (v.js.getD i default).ta (v.js.getD i default).tl (v.js.getD i default).tc] X1 fun e w' => e = .returned (.bool (allSure (v.js.getD i default).tasks)) ∧ Below X1.heap.size X1 w') := isSure_any _ _ _ _ X1 hT1
  have HCom : Hid (∀ U, Below X1.heap.size X1 U → Calls Tryd.prog 52 #[.pointer (some ⟨q, 0, none⟩), .pointer (some ⟨g, i * 6, none⟩)] U fun e X' => e = .returned (.tuple #[]) ∧ ComIs w X' B q { v with sure := JN } i JN (handsOf v.s ls v.p v.l (v.js.getD i default).tasks) ((v.js.getD i default).tasks.any fun t => t.write) (.returned (.tuple #[]))) := fun U hU => by
    have := commit_any U (hX1.below hU) ls (i := i) (g := g) hi eg hs hm hr hp hL
    refine this.mono ?_
    rintro e u hu
    obtain rfl := hu.1
    simp only [] at hu
    rw [← HJN.out] at hu
    exact ⟨rfl, hu⟩
  have hY := (hX1.jcell (i := i) (g := g) hi eg 1 (by decide) (.int .i64 2) { v.js.getD i default with state := 2 } rfl ⟨rfl, rfl, rfl, rfl, rfl, rfl, rfl, rfl⟩)
  obtain ⟨AS, eAS⟩ : ∃ b, b = allSure (v.js.getD i default).tasks := ⟨_, rfl⟩
  have HC1 : Hid (Clerk w X1 B q { v with sure := JN } ix more) := hX1
  have HAS : Hid (AS = allSure (v.js.getD i default).tasks) := eAS
  have HTL : Hid ((v.js.getD i default).tasks.length = (v.js.getD i default).tl) := hT1.1
  rw [← eAS] at HSu
  obtain ⟨JT, eJT⟩ : ∃ JT, JT = (v.js.getD i default).tasks := ⟨_, rfl⟩
  obtain ⟨ta, eta⟩ : ∃ x, x = (v.js.getD i default).ta := ⟨_, rfl⟩
  obtain ⟨tl, etl⟩ : ∃ x, x = (v.js.getD i default).tl := ⟨_, rfl⟩
  obtain ⟨tc, etc⟩ : ∃ x, x = (v.js.getD i default).tc := ⟨_, rfl⟩
  rw [← eta, ← etl, ← etc] at HSu y2
  rw [← eJT, ← etl] at HTL
  rw [← etl] at htl
  have HJT : Hid (JT = (v.js.getD i default).tasks) := eJT
  have HTa : Hid (ta = (v.js.getD i default).ta ∧ tl = (v.js.getD i default).tl ∧ tc = (v.js.getD i default).tc) := ⟨eta, etl, etc⟩
  clear eJT eta etl etc
  cases AS with
  | true =>
    clear eAS hm hr hp hL hc bx h hX1 eJN hY hc1 hf1 hfz hT1
    go_enter Tryd.func26, Tryd.ntmps26
    go_upto_region 1 with (fail)
    rw [← eX1]
    clear eX1 q10 f10 x0
    go_wp2_with (first | (go_at_call 51; refine HSu.out.mono ?_; rintro e U ⟨rfl, hbU⟩) | (go_at_call 52; refine (HCom.out _ hbU).mono ?_; rintro e w9 ⟨rfl, h9⟩))
    exact bodyPost_ret (v := .tuple #[]) (by simp [results, Tryd.results26, go_sem]) rfl (show CheckIs w w9 B q v i JN ls ix more (.returned (.tuple #[])) from ⟨rfl, fun _ => h9, (fun e => by rw [← HAS.out] at e; cases e)⟩)
  | false =>
    clear eAS hr hp hL hc bx h hX1 eJN hY hc1 hf1 hfz hT1 HCom
    go_enter Tryd.func26, Tryd.ntmps26
    go_upto_region 1 with (fail)
    rw [← eX1]
    clear eX1 q10 f10 x0
    go_upto_region 3 with (go_at_call 51; refine HSu.out.mono ?_; rintro e U ⟨rfl, hbU⟩)
    have hCU := HC1.out.below hbU
    obtain ⟨g2, eg2, -, zgU, -, hcU, hfU⟩ := hCU.jobAt (i := i) hi
    obtain rfl := ptrEq eg (by exact eg2)
    clear eg2
    have u1 : U.cell? ⟨g, i * 6 + 1, none⟩ = some (.int .i64 (v.js.getD i default).state) := by simpa [JbV.cells] using hcU 1 (by decide)
    have u2 : U.cell? ⟨g, i * 6 + 2, none⟩ = some (.slice (v.js.getD i default).ta (v.js.getD i default).tl (v.js.getD i default).tc) := by simpa [JbV.cells] using hcU 2 (by decide)
    have u5 : U.cell? ⟨g, i * 6 + 5, none⟩ = some (.int .i64 (v.js.getD i default).age) := by simpa [JbV.cells] using hcU 5 (by decide)
    have v1 := hfU 1 (by decide)
    have v5 := hfU 5 (by decide)
    have hP := hCU.jcell (i := i) (g := g) hi eg 1 (by decide) (.int .i64 2) { v.js.getD i default with state := 2 } rfl ⟨rfl, rfl, rfl, rfl, rfl, rfl, rfl, rfl⟩
    have hP2 := hP.jcell (i := i) (g := g) hi eg 5 (by decide) (.int .i64 0) { v.js.getD i default with state := 2, age := 0 } (by simp only []; rw [set_getD _ _ _ hi']; rfl) (by simp only []; rw [set_getD _ _ _ hi']; exact ⟨rfl, rfl, rfl, rfl, rfl, rfl, rfl, rfl⟩)
    simp only [List.set_set] at hP2
    have HP : Hid (Clerk w ((U.setCell ⟨g, i * 6 + 1, none⟩ (.int .i64 2)).setCell ⟨g, i * 6 + 5, none⟩ (.int .i64 0)) B q (chkV v i JN v.ma v.mc []) ix more) := by
      have e : ({ v with sure := JN, js := v.js.set i { v.js.getD i default with state := 2, age := 0 } } : CkV) = chkV v i JN v.ma v.mc [] := by unfold chkV; simp
      rw [← e]
      exact hP2
    clear hP hP2 hCU hcU hfU HSu y2
    obtain ⟨Y, eY⟩ : ∃ Y, Y = (U.setCell ⟨g, i * 6 + 1, none⟩ (.int .i64 2)).setCell ⟨g, i * 6 + 5, none⟩ (.int .i64 0) := ⟨_, rfl⟩
    rw [← eY] at HP
    /- what a clerk of the loop knows of its job -/
    have HJ : Hid (∀ (U : World) (ma : Option Addr) (mc : Nat) (ms : List MV), Clerk w U B q (chkV v i JN ma mc ms) ix more → U.cell? ⟨g, i * 6, none⟩ = some (.int .i64 JN) ∧ U.cell? ⟨g, i * 6 + 2, none⟩ = some (.slice (v.js.getD i default).ta (v.js.getD i default).tl (v.js.getD i default).tc) ∧ g < U.heap.size ∧ IsTasks U (v.js.getD i default).ta (v.js.getD i default).tl (v.js.getD i default).tc (v.js.getD i default).tasks) := fun U ma mc ms hU => by
      obtain ⟨g2, eg2, -, zg2, -, hc2, hf2⟩ := hU.jobAt (i := i) hi
      obtain rfl := ptrEq eg (by exact eg2)
      have hT := hU.isTasks (i := i) hi
      have e1 : (chkV v i JN ma mc ms).js.getD i default = { v.js.getD i default with state := 2, age := 0 } := set_getD _ _ _ hi'
      rw [e1] at hc2 hT
      exact ⟨by rw [HJN.out]; simpa [JbV.cells] using hc2 0 (by decide), by simpa [JbV.cells] using hc2 2 (by decide), zg2, hT⟩
    have HHm : Hid (∀ (U : World) (ma : Option Addr) (mc : Nat) (ms : List MV) (key : Int), Clerk w U B q (chkV v i JN ma mc ms) ix more → Calls Tryd.prog 50 #[.pointer (some ⟨q, 0, none⟩), .int .i64 key] U fun e U' => e = .returned (.int .i64 (homeNum v.s ls v.p key)) ∧ Below U.heap.size U U') := fun U ma mc ms key hU => clerkHome_any U hU ls (HL.out _ _ _ _ hU) key
    have HSd : Hid (∀ (U : World) (ma : Option Addr) (mc : Nat) (ms : List MV) (t : TkV), ms.length ≤ 1048576 → Clerk w U B q (chkV v i JN ma mc ms) ix more → Calls Tryd.prog 49 #[.pointer (some ⟨q, 0, none⟩), .int .i64 JN, .int .i64 (homeNum v.s ls v.p t.key), .agg #[.int .i64 3, .int .i64 0, .int .i64 0, .int .i64 0, .int .i64 0, .int .i64 t.label, .int .i64 t.key, .int .i64 0, .int .i64 t.version, .int .i64 0, .bool false, .int .i64 0]] U fun e X' => e = .returned (.tuple #[]) ∧ ∃ ma' mc', Clerk w X' B q (chkV v i JN ma' mc' (ms ++ [chkM v.s ls v.p v.me JN t])) ix more) := fun U ma mc ms t hms hU => by
      have := send_any U hU JN (homeNum v.s ls v.p t.key) ⟨3, 0, 0, 0, 0, t.label, t.key, 0, t.version, 0, false, 0⟩ (chk_fit Hm.out hms)
      refine this.mono ?_
      rintro e u ⟨rfl, m5, k5, h5⟩
      refine ⟨rfl, m5, k5, ?_⟩
      have e5 : chkV v i JN m5 k5 (ms ++ [chkM v.s ls v.p v.me JN t]) = { chkV v i JN ma mc ms with ma := m5, ml := (chkV v i JN ma mc ms).ml + 1, mc := k5, ms := (chkV v i JN ma mc ms).ms ++ [⟨3, (chkV v i JN ma mc ms).me, homeNum v.s ls v.p t.key, (chkV v i JN ma mc ms).me, JN, t.label, t.key, 0, t.version, 0, false, 0⟩] } := by
        unfold chkV chkM
        simp [Nat.add_assoc]
      rw [e5]
      exact h5
    have HFin : Hid (∀ (U : World) (ma : Option Addr) (mc : Nat), Clerk w U B q (chkV v i JN ma mc (chkMs v.s ls v.p v.me JN JT)) ix more → CheckIs w U B q v i JN ls ix more (.returned (.tuple #[]))) := fun U ma mc hU => by
      refine ⟨rfl, fun e => ?_, fun _ => ⟨ma, mc, ?_⟩⟩
      · rw [← HAS.out] at e; cases e
      · rw [← HJT.out]; exact hU
    rw [← HJT.out, ← HTa.out.1, ← HTa.out.2.1, ← HTa.out.2.2] at HJ
    rw [← HTa.out.1, ← HTa.out.2.1, ← HTa.out.2.2] at u2
    clear HAS hm
    go_upto_region 4 with (fail)
    rw [← eY]
    clear eY u1 u2 u5 v1 v5
    obtain ⟨y0, y2, zgY, -⟩ := HJ.out Y v.ma v.mc [] HP.out
    have htl' : (tl : Int) ≤ 1048576 := by omega
    go_upto_region 5 with (fail)
    go_loopw [5, 33] (fun _ s33 wr => ∃ (k : Nat) (m1 : Option Addr) (k1 : Nat), s33 = .int .i64 (k : Int) ∧ k ≤ tl ∧ Clerk w wr B q (chkV v i JN m1 k1 (chkMs v.s ls v.p v.me JN (JT.take k))) ix more) (fun _ s33 _ => tl - (intOf s33).toNat)
    case atStart => exact ⟨0, v.ma, v.mc, rfl, Nat.zero_le _, HP.out⟩
    case round =>
      clear y0 y2 zgY HP
      obtain ⟨k, m1, k1, rfl, hk, hC⟩ := hrel
      by_cases hlt : k < tl
      · have hlt' : (k : Int) < (tl : Int) := by omega
        obtain ⟨j0, -, zj, hT⟩ := HJ.out _ _ _ _ hC
        obtain ⟨b, off, rfl, zb, hcr⟩ := hT.2.2.2.2 (by omega)
        have hktc : k < tc := Nat.lt_of_lt_of_le hlt hT.2.1
        have hcells := hcr k hlt
        have Hk : Hid (k < JT.length) := by show _ < _; rw [HTL.out]; exact hlt
        have HAt : Hid (chkMs v.s ls v.p v.me JN (JT.take (k + 1)) = chkMs v.s ls v.p v.me JN (JT.take k) ++ (if unsure (JT.getD k default) = true then [chkM v.s ls v.p v.me JN (JT.getD k default)] else [])) := chkMs_at Hk.out
        have HLn : Hid ((chkMs v.s ls v.p v.me JN (JT.take k)).length ≤ 1048576) := Nat.le_trans chkMs_len (Nat.le_trans hk htl)
        obtain ⟨t, et⟩ : ∃ t, t = JT.getD k default := ⟨_, rfl⟩
        rw [← et] at hcells HAt
        clear et hcr hT
        obtain ⟨write, label, key, value, version, ask, done, sure⟩ := t
        have a0 := hcells 0 (by decide)
        have a1 := hcells 1 (by decide)
        have a2 := hcells 2 (by decide)
        have a3 := hcells 3 (by decide)
        have a4 := hcells 4 (by decide)
        have a5 := hcells 5 (by decide)
        have a6 := hcells 6 (by decide)
        have a7 := hcells 7 (by decide)
        simp [TkV.cells] at a0 a1 a2 a3 a4 a5 a6 a7
        clear hcells
        obtain ⟨V, hV⟩ : ∃ V : World, V = wr.alloc (.cells #[.bool write, .int .i64 label, .int .i64 key, .int .i64 value, .int .i64 version, .int .i64 ask, .bool done, .bool sure] 87) := ⟨_, rfl⟩
        have bV : Below wr.heap.size wr V := by rw [hV]; exact (Below.refl _ _).alloc (Nat.le_refl _) _
        have bxV : BoxN V wr.heap.size 8 [.bool write, .int .i64 label, .int .i64 key, .int .i64 value, .int .i64 version, .int .i64 ask, .bool done, .bool sure] := by rw [hV]; exact boxn_new wr #[.bool write, .int .i64 label, .int .i64 key, .int .i64 value, .int .i64 version, .int .i64 ask, .bool done, .bool sure] 87 8 rfl
        have HCV : Hid (∀ U, Below V.heap.size V U → Clerk w U B q (chkV v i JN m1 k1 (chkMs v.s ls v.p v.me JN (JT.take k))) ix more) := fun U hU => (hC.below bV).below hU
        have zV := bxV.lt
        have HUn : Hid (∀ U, Calls Tryd.prog 53 #[.agg #[.bool write, .int .i64 label, .int .i64 key, .int .i64 value, .int .i64 version, .int .i64 ask, .bool done, .bool sure]] U fun e w' => e = .returned (.bool (unsure ⟨write, label, key, value, version, ask, done, sure⟩)) ∧ Below U.heap.size U w') := fun U => isUnsure_any ⟨write, label, key, value, version, ask, done, sure⟩ U
        obtain ⟨UN, eUN⟩ : ∃ b, b = unsure ⟨write, label, key, value, version, ask, done, sure⟩ := ⟨_, rfl⟩
        rw [← eUN] at HUn HAt
        clear eUN
        have l0 : V.cell? ⟨wr.heap.size, 0, none⟩ = some (.bool write) := (bxV.c 0 (by decide)).1
        have l1 : V.cell? ⟨wr.heap.size, 1, none⟩ = some (.int .i64 label) := (bxV.c 1 (by decide)).1
        have l2 : V.cell? ⟨wr.heap.size, 2, none⟩ = some (.int .i64 key) := (bxV.c 2 (by decide)).1
        have l3 : V.cell? ⟨wr.heap.size, 3, none⟩ = some (.int .i64 value) := (bxV.c 3 (by decide)).1
        have l4 : V.cell? ⟨wr.heap.size, 4, none⟩ = some (.int .i64 version) := (bxV.c 4 (by decide)).1
        have l5 : V.cell? ⟨wr.heap.size, 5, none⟩ = some (.int .i64 ask) := (bxV.c 5 (by decide)).1
        have l6 : V.cell? ⟨wr.heap.size, 6, none⟩ = some (.bool done) := (bxV.c 6 (by decide)).1
        have l7 : V.cell? ⟨wr.heap.size, 7, none⟩ = some (.bool sure) := (bxV.c 7 (by decide)).1
        go_upto_region 7 with (fail)
        rw [← hV]
        clear hV a0 a1 a2 a3 a4 a5 a6 a7
        cases UN with
        | false =>
          have HZ : Hid (chkMs v.s ls v.p v.me JN (JT.take (k + 1)) = chkMs v.s ls v.p v.me JN (JT.take k)) := by show _ = _; rw [HAt.out]; simp
          clear HAt
          go_wp2_with (go_at_call 53; refine (HUn.out _).mono ?_; rintro e w5 ⟨rfl, hb5⟩)
          go_roundw
          case rel => exact ⟨k + 1, m1, k1, by go_num, by omega, by rw [HZ.out]; exact HCV.out _ hb5⟩
          case measure => simp [intOf]; omega
        | true =>
          have HZ : Hid (chkMs v.s ls v.p v.me JN (JT.take (k + 1)) = chkMs v.s ls v.p v.me JN (JT.take k) ++ [chkM v.s ls v.p v.me JN ⟨write, label, key, value, version, ask, done, sure⟩]) := by show _ = _; rw [HAt.out]; simp
          clear HAt
          go_upto_region 8 with (go_at_call 53; refine (HUn.out _).mono ?_; rintro e Y5 ⟨rfl, hb5⟩)
          have KC : Hid (∀ U, Below Y5.heap.size Y5 U → U.cell? ⟨g, i * 6, none⟩ = some (.int .i64 JN) ∧ U.cell? ⟨wr.heap.size, 1, none⟩ = some (.int .i64 label) ∧ U.cell? ⟨wr.heap.size, 2, none⟩ = some (.int .i64 key) ∧ U.cell? ⟨wr.heap.size, 4, none⟩ = some (.int .i64 version)) := fun U hU => by
            have hVU := hb5.trans (hU.mono hb5.size)
            exact ⟨(HJ.out _ _ _ _ (HCV.out U hVU)).1, (hVU.cell (p := ⟨wr.heap.size, 1, none⟩) zV).trans l1, (hVU.cell (p := ⟨wr.heap.size, 2, none⟩) zV).trans l2, (hVU.cell (p := ⟨wr.heap.size, 4, none⟩) zV).trans l4⟩
          have HH : Hid (∀ U, Below Y5.heap.size Y5 U → Calls Tryd.prog 50 #[.pointer (some ⟨q, 0, none⟩), .int .i64 key] U fun e U' => e = .returned (.int .i64 (homeNum v.s ls v.p key)) ∧ Below U.heap.size U U') := fun U hU => HHm.out U _ _ _ key (HCV.out U (hb5.trans (hU.mono hb5.size)))
          obtain ⟨D, eD⟩ : ∃ D : World → Prop, D = fun u => ∃ (ma : Option Addr) (mc : Nat), Clerk w u B q (chkV v i JN ma mc (chkMs v.s ls v.p v.me JN (JT.take (k + 1)))) ix more := ⟨_, rfl⟩
          have HD : Hid (∀ u, D u → ∃ (ma : Option Addr) (mc : Nat), Clerk w u B q (chkV v i JN ma mc (chkMs v.s ls v.p v.me JN (JT.take (k + 1)))) ix more) := fun u hu => by rw [eD] at hu; exact hu
          have HS2 : Hid (∀ U, Below Y5.heap.size Y5 U → Calls Tryd.prog 49 #[.pointer (some ⟨q, 0, none⟩), .int .i64 JN, .int .i64 (homeNum v.s ls v.p key), .agg #[.int .i64 3, .int .i64 0, .int .i64 0, .int .i64 0, .int .i64 0, .int .i64 label, .int .i64 key, .int .i64 0, .int .i64 version, .int .i64 0, .bool false, .int .i64 0]] U fun e U' => e = .returned (.tuple #[]) ∧ D U') := fun U hU => by
            refine (HSd.out U _ _ _ ⟨write, label, key, value, version, ask, done, sure⟩ HLn.out (HCV.out U (hb5.trans (hU.mono hb5.size)))).mono ?_
            rintro e u ⟨rfl, m5, k5, h5⟩
            refine ⟨rfl, ?_⟩
            rw [eD, HZ.out]
            exact ⟨m5, k5, h5⟩
          obtain ⟨H, eH⟩ : ∃ H, H = homeNum v.s ls v.p key := ⟨_, rfl⟩
          rw [← eH] at HH HS2
          clear eD eH HZ l0 l1 l2 l3 l4 l5 l6 l7 bxV hC j0
          refine wp_region_inv (by kernel_rfl) [39, 40, 41, 42, 43, 44, 45, 46, 47, 48, 49, 50, 51, 52, 53, 54, 55] (fun L T u => True ∧ (L 0 = true → T 39 = .pointer (some ⟨q, 0, none⟩)) ∧ (L 1 = true → T 40 = .pointer (some ⟨g, i * 6, none⟩)) ∧ (L 2 = true → T 41 = .pointer (some ⟨g, i * 6, none⟩)) ∧ (L 3 = true → T 42 = .pointer (some ⟨g, i * 6, none⟩)) ∧ (L 4 = true → T 43 = .int .i64 JN) ∧ (L 5 = true → T 44 = .pointer (some ⟨q, 0, none⟩)) ∧ (L 6 = true → T 45 = .pointer (some ⟨wr.heap.size, 2, none⟩)) ∧ (L 7 = true → T 46 = .int .i64 key) ∧ (L 8 = true → T 47 = .int .i64 H) ∧ (L 9 = true → T 48 = .pointer (some ⟨wr.heap.size, 1, none⟩)) ∧ (L 10 = true → T 49 = .int .i64 label) ∧ (L 11 = true → T 50 = .pointer (some ⟨wr.heap.size, 2, none⟩)) ∧ (L 12 = true → T 51 = .int .i64 key) ∧ (L 13 = true → T 52 = .pointer (some ⟨wr.heap.size, 4, none⟩)) ∧ (L 14 = true → T 53 = .int .i64 version) ∧ (L 15 = true → T 54 = .agg #[.int .i64 3, .int .i64 0, .int .i64 0, .int .i64 0, .int .i64 0, .int .i64 label, .int .i64 key, .int .i64 0, .int .i64 version, .int .i64 0, .bool false, .int .i64 0]) ∧ (L 16 = false → Below Y5.heap.size Y5 u) ∧ (L 16 = true → D u)) (by decide) (by kernel_rfl) (by kernel_rfl) ?_ ?_ ?_
          · exact ⟨trivial, nofun, nofun, nofun, nofun, nofun, nofun, nofun, nofun, nofun, nofun, nofun, nofun, nofun, nofun, nofun, nofun, fun _ => (Below.refl _ _).drew, nofun⟩
          · refine ⟨?_, ?_, ?_, ?_, ?_, ?_, ?_, ?_, ?_, ?_, ?_, ?_, ?_, ?_, ?_, ?_, ?_, trivial⟩
            · rintro L T u hd hk hcl ⟨hb, p0, p1, p2, p3, p4, p5, p6, p7, p8, p9, p10, p11, p12, p13, p14, p15, c1, c2⟩ K hK
              simp only [fr, Act.put, List.setIfInBounds_toArray, List.set_cons_zero, List.set_cons_succ, updO] at hK ⊢
              simp [Region.binds] at hd
              rw [if_pos (by rfl)]
              simp only [Oper.wpv]
              go_simp
              exact hK _ _ ⟨hb, fun _ => rfl, p1, p2, p3, p4, p5, p6, p7, p8, p9, p10, p11, p12, p13, p14, p15, c1, c2⟩
            · rintro L T u hd hk hcl ⟨hb, p0, p1, p2, p3, p4, p5, p6, p7, p8, p9, p10, p11, p12, p13, p14, p15, c1, c2⟩ K hK
              simp only [fr, Act.put, List.setIfInBounds_toArray, List.set_cons_zero, List.set_cons_succ, updO] at hK ⊢
              simp [Region.binds] at hd
              rw [if_pos (by rfl)]
              simp only [Oper.wpv]
              go_simp
              exact hK _ _ ⟨hb, p0, fun _ => rfl, p2, p3, p4, p5, p6, p7, p8, p9, p10, p11, p12, p13, p14, p15, c1, c2⟩
            · rintro L T u hd hk hcl ⟨hb, p0, p1, p2, p3, p4, p5, p6, p7, p8, p9, p10, p11, p12, p13, p14, p15, c1, c2⟩ K hK
              simp only [fr, Act.put, List.setIfInBounds_toArray, List.set_cons_zero, List.set_cons_succ, updO] at hK ⊢
              simp [Region.binds] at hd
              have g1 := p1 (by simp [hd])
              rw [if_pos (by rfl)]
              simp only [Oper.wpv]
              go_simp
              exact hK _ _ ⟨hb, p0, p1, fun _ => rfl, p3, p4, p5, p6, p7, p8, p9, p10, p11, p12, p13, p14, p15, c1, c2⟩
            · rintro L T u hd hk hcl ⟨hb, p0, p1, p2, p3, p4, p5, p6, p7, p8, p9, p10, p11, p12, p13, p14, p15, c1, c2⟩ K hK
              simp only [fr, Act.put, List.setIfInBounds_toArray, List.set_cons_zero, List.set_cons_succ, updO] at hK ⊢
              simp [Region.binds] at hd
              have g2 := p2 (by simp [hd])
              rw [if_pos (by rfl)]
              simp only [Oper.wpv]
              go_simp
              exact hK _ _ ⟨hb, p0, p1, p2, fun _ => rfl, p4, p5, p6, p7, p8, p9, p10, p11, p12, p13, p14, p15, c1, c2⟩
            · rintro L T u hd hk hcl ⟨hb, p0, p1, p2, p3, p4, p5, p6, p7, p8, p9, p10, p11, p12, p13, p14, p15, c1, c2⟩ K hK
              simp only [fr, Act.put, List.setIfInBounds_toArray, List.set_cons_zero, List.set_cons_succ, updO] at hK ⊢
              simp [Region.binds] at hd
              have g3 := p3 (by simp [hd])
              have k16 := hcl 16 _ rfl
              simp [Region.binds] at k16
              have hE : L 16 = false := by cases h : L 16 with | false => rfl | true => have a16 := k16 h; simp [hk] at a16
              obtain ⟨xn, xl, xk, xv⟩ := KC.out u (c1 hE)
              rw [if_pos (by rfl)]
              simp only [Oper.wpv]
              go_simp
              exact hK _ _ ⟨hb, p0, p1, p2, p3, fun _ => rfl, p5, p6, p7, p8, p9, p10, p11, p12, p13, p14, p15, c1, c2⟩
            · rintro L T u hd hk hcl ⟨hb, p0, p1, p2, p3, p4, p5, p6, p7, p8, p9, p10, p11, p12, p13, p14, p15, c1, c2⟩ K hK
              simp only [fr, Act.put, List.setIfInBounds_toArray, List.set_cons_zero, List.set_cons_succ, updO] at hK ⊢
              simp [Region.binds] at hd
              rw [if_pos (by rfl)]
              simp only [Oper.wpv]
              go_simp
              exact hK _ _ ⟨hb, p0, p1, p2, p3, p4, fun _ => rfl, p6, p7, p8, p9, p10, p11, p12, p13, p14, p15, c1, c2⟩
            · rintro L T u hd hk hcl ⟨hb, p0, p1, p2, p3, p4, p5, p6, p7, p8, p9, p10, p11, p12, p13, p14, p15, c1, c2⟩ K hK
              simp only [fr, Act.put, List.setIfInBounds_toArray, List.set_cons_zero, List.set_cons_succ, updO] at hK ⊢
              simp [Region.binds] at hd
              rw [if_pos (by rfl)]
              simp only [Oper.wpv]
              go_simp
              exact hK _ _ ⟨hb, p0, p1, p2, p3, p4, p5, fun _ => rfl, p7, p8, p9, p10, p11, p12, p13, p14, p15, c1, c2⟩
            · rintro L T u hd hk hcl ⟨hb, p0, p1, p2, p3, p4, p5, p6, p7, p8, p9, p10, p11, p12, p13, p14, p15, c1, c2⟩ K hK
              simp only [fr, Act.put, List.setIfInBounds_toArray, List.set_cons_zero, List.set_cons_succ, updO] at hK ⊢
              simp [Region.binds] at hd
              have g6 := p6 (by simp [hd])
              have k16 := hcl 16 _ rfl
              simp [Region.binds] at k16
              have k8 := hcl 8 _ rfl
              simp [Region.binds] at k8
              have hE : L 16 = false := by cases h : L 16 with | false => rfl | true => have a16 := k16 h; have a8 := k8 (by simp [a16]); simp [hk] at a8
              obtain ⟨xn, xl, xk, xv⟩ := KC.out u (c1 hE)
              rw [if_pos (by rfl)]
              simp only [Oper.wpv]
              go_simp
              exact hK _ _ ⟨hb, p0, p1, p2, p3, p4, p5, p6, fun _ => rfl, p8, p9, p10, p11, p12, p13, p14, p15, c1, c2⟩
            · rintro L T u hd hk hcl ⟨hb, p0, p1, p2, p3, p4, p5, p6, p7, p8, p9, p10, p11, p12, p13, p14, p15, c1, c2⟩ K hK
              simp only [fr, Act.put, List.setIfInBounds_toArray, List.set_cons_zero, List.set_cons_succ, updO] at hK ⊢
              simp [Region.binds] at hd
              have g5 := p5 (by simp [hd])
              have g7 := p7 (by simp [hd])
              have k16 := hcl 16 _ rfl
              simp [Region.binds] at k16
              have hE : L 16 = false := by cases h : L 16 with | false => rfl | true => have a16 := k16 h; simp [hk] at a16
              rw [if_pos (by rfl)]
              simp only [Oper.wpv]
              go_simp
              refine (HH.out _ (c1 hE)).mono ?_
              rintro e u1 ⟨rfl, hg⟩
              exact hK _ _ ⟨hb, p0, p1, p2, p3, p4, p5, p6, p7, fun _ => rfl, p9, p10, p11, p12, p13, p14, p15, fun _ => nT (c1 hE) hg, fun h => absurd (show L 16 = true from h) (by simp [hE])⟩
            · rintro L T u hd hk hcl ⟨hb, p0, p1, p2, p3, p4, p5, p6, p7, p8, p9, p10, p11, p12, p13, p14, p15, c1, c2⟩ K hK
              simp only [fr, Act.put, List.setIfInBounds_toArray, List.set_cons_zero, List.set_cons_succ, updO] at hK ⊢
              simp [Region.binds] at hd
              rw [if_pos (by rfl)]
              simp only [Oper.wpv]
              go_simp
              exact hK _ _ ⟨hb, p0, p1, p2, p3, p4, p5, p6, p7, p8, fun _ => rfl, p10, p11, p12, p13, p14, p15, c1, c2⟩
            · rintro L T u hd hk hcl ⟨hb, p0, p1, p2, p3, p4, p5, p6, p7, p8, p9, p10, p11, p12, p13, p14, p15, c1, c2⟩ K hK
              simp only [fr, Act.put, List.setIfInBounds_toArray, List.set_cons_zero, List.set_cons_succ, updO] at hK ⊢
              simp [Region.binds] at hd
              have g9 := p9 (by simp [hd])
              have k16 := hcl 16 _ rfl
              simp [Region.binds] at k16
              have k15 := hcl 15 _ rfl
              simp [Region.binds] at k15
              have hE : L 16 = false := by cases h : L 16 with | false => rfl | true => have a16 := k16 h; have a15 := k15 (by simp [a16]); simp [hk] at a15
              obtain ⟨xn, xl, xk, xv⟩ := KC.out u (c1 hE)
              rw [if_pos (by rfl)]
              simp only [Oper.wpv]
              go_simp
              exact hK _ _ ⟨hb, p0, p1, p2, p3, p4, p5, p6, p7, p8, p9, fun _ => rfl, p11, p12, p13, p14, p15, c1, c2⟩
            · rintro L T u hd hk hcl ⟨hb, p0, p1, p2, p3, p4, p5, p6, p7, p8, p9, p10, p11, p12, p13, p14, p15, c1, c2⟩ K hK
              simp only [fr, Act.put, List.setIfInBounds_toArray, List.set_cons_zero, List.set_cons_succ, updO] at hK ⊢
              simp [Region.binds] at hd
              rw [if_pos (by rfl)]
              simp only [Oper.wpv]
              go_simp
              exact hK _ _ ⟨hb, p0, p1, p2, p3, p4, p5, p6, p7, p8, p9, p10, fun _ => rfl, p12, p13, p14, p15, c1, c2⟩
            · rintro L T u hd hk hcl ⟨hb, p0, p1, p2, p3, p4, p5, p6, p7, p8, p9, p10, p11, p12, p13, p14, p15, c1, c2⟩ K hK
              simp only [fr, Act.put, List.setIfInBounds_toArray, List.set_cons_zero, List.set_cons_succ, updO] at hK ⊢
              simp [Region.binds] at hd
              have g11 := p11 (by simp [hd])
              have k16 := hcl 16 _ rfl
              simp [Region.binds] at k16
              have k15 := hcl 15 _ rfl
              simp [Region.binds] at k15
              have hE : L 16 = false := by cases h : L 16 with | false => rfl | true => have a16 := k16 h; have a15 := k15 (by simp [a16]); simp [hk] at a15
              obtain ⟨xn, xl, xk, xv⟩ := KC.out u (c1 hE)
              rw [if_pos (by rfl)]
              simp only [Oper.wpv]
              go_simp
              exact hK _ _ ⟨hb, p0, p1, p2, p3, p4, p5, p6, p7, p8, p9, p10, p11, fun _ => rfl, p13, p14, p15, c1, c2⟩
            · rintro L T u hd hk hcl ⟨hb, p0, p1, p2, p3, p4, p5, p6, p7, p8, p9, p10, p11, p12, p13, p14, p15, c1, c2⟩ K hK
              simp only [fr, Act.put, List.setIfInBounds_toArray, List.set_cons_zero, List.set_cons_succ, updO] at hK ⊢
              simp [Region.binds] at hd
              rw [if_pos (by rfl)]
              simp only [Oper.wpv]
              go_simp
              exact hK _ _ ⟨hb, p0, p1, p2, p3, p4, p5, p6, p7, p8, p9, p10, p11, p12, fun _ => rfl, p14, p15, c1, c2⟩
            · rintro L T u hd hk hcl ⟨hb, p0, p1, p2, p3, p4, p5, p6, p7, p8, p9, p10, p11, p12, p13, p14, p15, c1, c2⟩ K hK
              simp only [fr, Act.put, List.setIfInBounds_toArray, List.set_cons_zero, List.set_cons_succ, updO] at hK ⊢
              simp [Region.binds] at hd
              have g13 := p13 (by simp [hd])
              have k16 := hcl 16 _ rfl
              simp [Region.binds] at k16
              have k15 := hcl 15 _ rfl
              simp [Region.binds] at k15
              have hE : L 16 = false := by cases h : L 16 with | false => rfl | true => have a16 := k16 h; have a15 := k15 (by simp [a16]); simp [hk] at a15
              obtain ⟨xn, xl, xk, xv⟩ := KC.out u (c1 hE)
              rw [if_pos (by rfl)]
              simp only [Oper.wpv]
              go_simp
              exact hK _ _ ⟨hb, p0, p1, p2, p3, p4, p5, p6, p7, p8, p9, p10, p11, p12, p13, fun _ => rfl, p15, c1, c2⟩
            · rintro L T u hd hk hcl ⟨hb, p0, p1, p2, p3, p4, p5, p6, p7, p8, p9, p10, p11, p12, p13, p14, p15, c1, c2⟩ K hK
              simp only [fr, Act.put, List.setIfInBounds_toArray, List.set_cons_zero, List.set_cons_succ, updO] at hK ⊢
              simp [Region.binds] at hd
              have g10 := p10 (by simp [hd])
              have g12 := p12 (by simp [hd])
              have g14 := p14 (by simp [hd])
              rw [if_pos (by rfl)]
              simp only [Oper.wpv]
              go_simp
              exact hK _ _ ⟨hb, p0, p1, p2, p3, p4, p5, p6, p7, p8, p9, p10, p11, p12, p13, p14, fun _ => rfl, c1, c2⟩
            · rintro L T u hd hk hcl ⟨hb, p0, p1, p2, p3, p4, p5, p6, p7, p8, p9, p10, p11, p12, p13, p14, p15, c1, c2⟩ K hK
              simp only [fr, Act.put, List.setIfInBounds_toArray, List.set_cons_zero, List.set_cons_succ, updO] at hK ⊢
              simp [Region.binds] at hd
              have g0 := p0 (by simp [hd])
              have g4 := p4 (by simp [hd])
              have g8 := p8 (by simp [hd])
              have g15 := p15 (by simp [hd])
              have hE : L 16 = false := hk
              rw [if_pos (by rfl)]
              simp only [Oper.wpv]
              go_simp
              refine (HS2.out _ (c1 hE)).mono ?_
              rintro e u1 ⟨rfl, hg⟩
              exact hK _ _ ⟨hb, p0, p1, p2, p3, p4, p5, p6, p7, p8, p9, p10, p11, p12, p13, p14, p15, fun h => Bool.noConfusion (show true = false from h), fun _ => hg⟩
          · rintro L T u hl ⟨hb, p0, p1, p2, p3, p4, p5, p6, p7, p8, p9, p10, p11, p12, p13, p14, p15, c1, c2⟩
            simp only [fr, Act.put, List.setIfInBounds_toArray, List.set_cons_zero, List.set_cons_succ]
            obtain ⟨m5, k5, h5⟩ := HD.out _ (c2 (hl 16 (by decide)))
            clear p0 p1 p2 p3 p4 p5 p6 p7 p8 p9 p10 p11 p12 p13 p14 p15 c1 c2 HD HS2 HH KC HUn HCV
            go_wp2
            go_roundw
            case rel => exact ⟨k + 1, m5, k5, by go_num, by omega, h5⟩
            case measure => simp [intOf]; omega
      · have HkN : Hid (k = tl) := by show _ = _; omega
        have hlt' : ¬ (k : Int) < (tl : Int) := by omega
        have h6 : CheckIs w wr B q v i JN ls ix more (.returned (.tuple #[])) := by
          refine HFin.out wr m1 k1 ?_
          rw [List.take_of_length_le (by rw [HkN.out, HTL.out]; exact Nat.le_refl _)] at hC
          exact hC
        clear hk hlt hC
        go_wp2
        exact bodyPost_end (v := .tuple #[]) (by simp [results, Tryd.results26, go_sem]) rfl h6
end Go.Proofs.YtdjnaahkcnklhabDoor.Co
