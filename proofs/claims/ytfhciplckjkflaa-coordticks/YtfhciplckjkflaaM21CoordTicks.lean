/- Texts of this claim, one behind the other. -/
import Derived.Test.YtfhciplckjkflaaM20CoordTicks
import Derived.Test.YtfhciplckjkflaaM19CoordTicks
import Derived.Test.YtfhciplckjkflaaM10CoordTicks
import Derived.Deep.RegionLaw
import Derived.Test.YtfhciplckjkflaaM12CoordTicks
/- The clerk's tell: those who are to know that a job is committed. -/
namespace Go.Proofs.Ytfhciplckjkflaa.Co
open Go.ChangeShapes Go.WideShapes Go.ChangeAt Go.RowKit
open Go.Proofs.Ytfhciplckjkflaa.St (BoxN boxn_new own_below grown_setCell IsRow Elem flat flat_append own_isRow idxI idxI_lt own_setk)
set_option linter.unusedVariables false

/-- The i-th job's Age is 0. -/
def ageZero (v : CkV) (i : Nat) : CkV := { v with js := v.js.set i { v.js.getD i default with age := 0 } }
def TellIs (w X' : World) (B q : Nat) (v : CkV) (n : Int) (zs : List Int) (ix : List (Nat × Nat)) (more : List Rw) (e : Ending) : Prop := e = .returned (.tuple #[]) ∧ ∃ (ma : Option Addr) (mc : Nat), Clerk w X' B q (toldV v ma mc n true zs) ix more
set_option maxRecDepth 100000 in
set_option maxHeartbeats 4000000 in
theorem tell_any {w : World} {B q : Nat} {v : CkV} {ix : List (Nat × Nat)} {more : List Rw} (X : World) (h : Clerk w X B q v ix more) {i g : Nat} (hi : i < v.jl) (eg : v.ja = some ⟨g, 0, none⟩) (hz : (v.js.getD i default).asked.length ≤ 1048576) (hn : (v.ml + 1048577) * 96 ≤ 140737488355328) :
    Calls Try.prog 63 #[.pointer (some ⟨q, 0, none⟩), .pointer (some ⟨g, i * 6, none⟩)] X fun e X' => TellIs w X' B q (ageZero v i) (v.js.getD i default).n (v.js.getD i default).asked ix more e := by
  obtain ⟨g', eg', _, zg, _, hc, hf⟩ := h.jobAt hi
  rw [eg] at eg'
  simp at eg'
  subst eg'
  have hjl := h.lens.1
  have hC1 : Clerk w (X.setCell ⟨g, i * 6 + 5, none⟩ (.int .i64 0)) B q (ageZero v i) ix more := h.jcell hi eg 5 (by decide) _ _ rfl ⟨rfl, rfl, rfl, rfl, rfl, rfl, rfl, rfl⟩
  have ej : (ageZero v i).js.getD i default = { v.js.getD i default with age := 0 } := by
    unfold ageZero
    simp [List.getD, show i < v.js.length by omega]
  have HJ : Hid (∀ (U : World) (ma : Option Addr) (mc : Nat) (zs : List Int), Clerk w U B q (toldV (ageZero v i) ma mc (v.js.getD i default).n true zs) ix more → U.cell? ⟨g, i * 6, none⟩ = some (.int .i64 (v.js.getD i default).n) ∧ U.cell? ⟨g, i * 6 + 3, none⟩ = some (.slice (v.js.getD i default).aa (v.js.getD i default).al (v.js.getD i default).ac) ∧ g < U.heap.size ∧ IsSites U (v.js.getD i default).aa (v.js.getD i default).al (v.js.getD i default).ac (v.js.getD i default).asked) := fun U ma mc zs hU => by
    obtain ⟨g2, eg2, _, zg2, _, hc2, _⟩ := hU.jobAt (i := i) hi
    have e3 : g = g2 := by
      have : (toldV (ageZero v i) ma mc (v.js.getD i default).n true zs).ja = v.ja := rfl
      rw [this, eg] at eg2
      simpa using eg2
    subst e3
    have hS := hU.isSites (i := i) hi
    have ejs : (toldV (ageZero v i) ma mc (v.js.getD i default).n true zs).js = (ageZero v i).js := rfl
    rw [ejs, ej] at hc2 hS
    refine ⟨?_, ?_, zg2, hS⟩
    · simpa [JbV.cells] using hc2 0 (by decide)
    · simpa [JbV.cells] using hc2 3 (by decide)
  have HC1 : Hid (Clerk w (X.setCell ⟨g, i * 6 + 5, none⟩ (.int .i64 0)) B q (ageZero v i) ix more) := hC1
  have hfz := (hf 5 (by decide))
  have c5 := hc 5 (by decide)
  have Hn : Hid (((ageZero v i).ml + 1048577) * 96 ≤ 140737488355328) := hn
  obtain ⟨v1, e1⟩ : ∃ v1, v1 = ageZero v i := ⟨_, rfl⟩
  rw [← e1] at HJ HC1 Hn ⊢
  obtain ⟨j, ejj⟩ : ∃ j, j = v.js.getD i default := ⟨_, rfl⟩
  rw [← ejj] at HJ hz c5 ⊢
  clear e1 ejj ej hC1 hc hn h hf
  obtain ⟨jn, st, ta, tl, tc, aa, al, ac, asks, age, tasks, asked⟩ := j
  simp only [JbV.cells, List.getElem?_cons_zero, List.getElem?_cons_succ] at HJ hz c5 ⊢
  have HZ : Hid (asked.length ≤ 1048576) := hz
  clear hz
  have HS : Hid (∀ (U : World) (ma : Option Addr) (mc k : Nat), k < asked.length → Clerk w U B q (toldV v1 ma mc jn true (asked.take k)) ix more → Calls Try.prog 50 #[.pointer (some ⟨q, 0, none⟩), .int .i64 jn, .int .i64 (asked.getD k default), .agg #[.int .i64 4, .int .i64 0, .int .i64 0, .int .i64 0, .int .i64 0, .int .i64 0, .int .i64 0, .int .i64 0, .int .i64 0, .int .i64 0, .bool true, .int .i64 0]] U fun e X' => e = .returned (.tuple #[]) ∧ ∃ a5 c5, Clerk w X' B q (toldV v1 a5 c5 jn true (asked.take (k + 1))) ix more) := fun U ma mc k hlt hC => by
    have hml : ((toldV v1 ma mc jn true (asked.take k)).ml + 1) * 96 ≤ 140737488355328 := told_fit Hn.out (Nat.le_trans (List.length_take_le k asked) (Nat.le_trans (Nat.le_of_lt hlt) HZ.out))
    have := send_any U hC jn (asked.getD k default) ⟨4, 0, 0, 0, 0, 0, 0, 0, 0, 0, true, 0⟩ hml
    simp only [MV.val] at this
    refine this.mono ?_
    rintro e u ⟨rfl, a5, c5, h5⟩
    refine ⟨rfl, a5, c5, ?_⟩
    rw [← toldV_at (ma := ma) (mc := mc) hlt]
    exact h5
  obtain ⟨Y, eY⟩ : ∃ Y, Y = X.setCell ⟨g, i * 6 + 5, none⟩ (.int .i64 0) := ⟨_, rfl⟩
  have hY : Clerk w Y B q (toldV v1 v1.ma v1.mc jn true (asked.take 0)) ix more := by rw [eY]; simpa [toldV] using HC1.out
  obtain ⟨y0, y3, zy, hSY⟩ := HJ.out _ _ _ _ hY
  obtain ⟨N, eN⟩ : ∃ N, N = al := ⟨_, rfl⟩
  have HN : Hid (asked.length = al) := hSY.1
  have hal : al ≤ 1048576 := by rw [← HN.out]; exact HZ.out
  go_enter Try.func63, Try.ntmps63
  go_upto_region 1 with (fail)
  rw [← eY]
  clear eY c5 hfz eN
  go_wp2
  go_loopw [14] (fun s14 wr => ∃ (k : Nat) (m1 : Option Addr) (k1 : Nat), s14 = .int .i64 (k : Int) ∧ k ≤ al ∧ Clerk w wr B q (toldV v1 m1 k1 jn true (asked.take k)) ix more) (fun s14 _ => al - (intOf s14).toNat)
  case atStart => exact ⟨0, v1.ma, v1.mc, rfl, Nat.zero_le _, hY⟩
  case round =>
    clear hY hSY y0 y3 zy
    obtain ⟨k, m1, k1, rfl, hk, hC⟩ := hrel
    obtain ⟨j0, j3, zj, hS⟩ := HJ.out _ _ _ _ hC
    by_cases hlt : k < al
    · have hlt' : (k : Int) < (al : Int) := by omega
      obtain ⟨b, off, rfl, zb, hcr⟩ := hS.2.2.2.2 (by omega)
      have cg : wr.cell? ⟨b, off + k, none⟩ = some (.int .i64 (asked.getD k default)) := by
        have := hcr k hlt 0 (by decide)
        rw [Nat.mul_one, Nat.add_zero] at this
        exact this
      have HS2 := HS.out wr m1 k1 k (by rw [HN.out]; exact hlt) hC
      obtain ⟨Z, eZ⟩ : ∃ Z, Z = asked.getD k default := ⟨_, rfl⟩
      rw [← eZ] at cg HS2
      have HS3 : Hid (Calls Try.prog 50 #[.pointer (some ⟨q, 0, none⟩), .int .i64 jn, .int .i64 Z, .agg #[.int .i64 4, .int .i64 0, .int .i64 0, .int .i64 0, .int .i64 0, .int .i64 0, .int .i64 0, .int .i64 0, .int .i64 0, .int .i64 0, .bool true, .int .i64 0]] wr fun e X' => e = .returned (.tuple #[]) ∧ ∃ a5 c5, Clerk w X' B q (toldV v1 a5 c5 jn true (asked.take (k + 1))) ix more) := HS2
      clear eZ HS2 hcr hS
      go_wp2_with (go_at_call 50; refine HS3.out.mono ?_; rintro e w5 ⟨rfl, a5, c5, h5⟩)
      go_roundw
      case rel => exact ⟨k + 1, a5, c5, by go_num, by omega, h5⟩
      case measure => simp [intOf]; omega
    · have HkN : Hid (k = al) := by show _ = _; omega
      have hlt' : ¬ (k : Int) < (al : Int) := by omega
      have h6 : TellIs w wr B q v1 jn asked ix more (.returned (.tuple #[])) := by
        refine ⟨rfl, m1, k1, ?_⟩
        rw [List.take_of_length_le (by rw [HkN.out, HN.out]; exact Nat.le_refl _)] at hC
        exact hC
      clear hk hlt hC hS
      go_wp2
      exact bodyPost_end (v := .tuple #[]) (by simp [results, Try.results63, go_sem]) rfl h6
end Go.Proofs.Ytfhciplckjkflaa.Co
/- coord.add: a task is put behind a job's others, and its ask's number is told. -/
namespace Go.Proofs.Ytfhciplckjkflaa.Co
open Go.ChangeShapes Go.WideShapes Go.ChangeAt Go.RowKit
open Go.Proofs.Ytfhciplckjkflaa.St (BoxN boxn_new own_below grown_setCell IsRow Elem flat flat_append own_isRow)
set_option linter.unusedVariables false

def addJob (j : JbV) (a5 : Option Addr) (c5 : Nat) (t : TkV) : JbV := { j with ta := a5, tl := j.tl + 1, tc := c5, asks := j.asks + 1, age := 0, tasks := j.tasks ++ [{ t with ask := j.asks + 1 }] }
def AddIs (w X' : World) (B q : Nat) (v : CkV) (i : Nat) (t : TkV) (ix : List (Nat × Nat)) (more : List Rw) (e : Ending) : Prop := e = .returned (.int .i64 ((v.js.getD i default).asks + 1)) ∧ ∃ (a5 : Option Addr) (c5 k : Nat) (r : Rw), (∃ y, ix[i]? = some (k, y)) ∧ Clerk w X' B q { v with js := v.js.set i (addJob (v.js.getD i default) a5 c5 t) } ix (more.set k r)
theorem set_getD {α : Type} [Inhabited α] (l : List α) (i : Nat) (x : α) (h : i < l.length) : (l.set i x).getD i default = x := by simp [List.getD, h]
set_option maxRecDepth 100000 in
set_option maxHeartbeats 4000000 in
theorem add_any {w : World} {B q : Nat} {v : CkV} {ix : List (Nat × Nat)} {more : List Rw} (X : World) (h : Clerk w X B q v ix more) {i g : Nat} (hi : i < v.jl) (eg : v.ja = some ⟨g, 0, none⟩) (t : TkV) (h0 : 0 ≤ (v.js.getD i default).asks) (h1 : (v.js.getD i default).asks ≤ 1048576) (hn : ((v.js.getD i default).tl + 1) * 56 ≤ 140737488355328) :
    Calls Try.prog 49 #[.pointer (some ⟨g, i * 6, none⟩), t.val] X fun e X' => AddIs w X' B q v i t ix more e := by
  obtain ⟨iT, ET⟩ := tkElem
  obtain ⟨g', eg', hBg, zg, _, hc, hf⟩ := h.jobAt hi
  rw [eg] at eg'
  simp at eg'
  subst eg'
  have hi' : i < v.js.length := by have := h.lens.1; omega
  obtain ⟨j, ej⟩ : ∃ j, j = v.js.getD i default := ⟨_, rfl⟩
  have hX1 := h.jcell hi eg 4 (by decide) (.int .i64 (j.asks + 1)) { j with asks := j.asks + 1 } (by rw [← ej]; rfl) (by rw [← ej]; exact ⟨rfl, rfl, rfl, rfl, rfl, rfl, rfl, rfl⟩)
  obtain ⟨X1, eX1⟩ : ∃ X1, X1 = X.setCell ⟨g, i * 6 + 4, none⟩ (.int .i64 (j.asks + 1)) := ⟨_, rfl⟩
  rw [← eX1] at hX1
  obtain ⟨write, label, key, value, version, ask, done, sure⟩ := t
  obtain ⟨V, eV⟩ : ∃ V : World, V = X1.alloc (.cells #[.bool write, .int .i64 label, .int .i64 key, .int .i64 value, .int .i64 version, .int .i64 (j.asks + 1), .bool done, .bool sure] 73) := ⟨_, rfl⟩
  have bV : Below X1.heap.size X1 V := by rw [eV]; exact (Below.refl _ _).alloc (Nat.le_refl _) _
  have bxV : BoxN V X1.heap.size 8 [.bool write, .int .i64 label, .int .i64 key, .int .i64 value, .int .i64 version, .int .i64 (j.asks + 1), .bool done, .bool sure] := by rw [eV]; exact boxn_new X1 #[.bool write, .int .i64 label, .int .i64 key, .int .i64 value, .int .i64 version, .int .i64 (j.asks + 1), .bool done, .bool sure] 73 8 rfl
  obtain ⟨U, eU⟩ : ∃ U : World, U = (V.alloc (.cells #[.bool write, .int .i64 label, .int .i64 key, .int .i64 value, .int .i64 version, .int .i64 (j.asks + 1), .bool done, .bool sure] 73)).drew := ⟨_, rfl⟩
  have bVU : Below V.heap.size V U := by rw [eU]; exact ((Below.refl _ _).alloc (Nat.le_refl _) _).drew
  have bU : Below X1.heap.size X1 U := bV.trans (bVU.mono bV.size)
  have hU := hX1.below bU
  have hone : IsRow 8 TkV.cells U (some ⟨V.heap.size, 0, none⟩) 1 1 [(⟨write, label, key, value, version, j.asks + 1, done, sure⟩ : TkV)] := by
    rw [eU]
    refine St.IsRow.below ?_ (Below.refl _ _).drew
    exact rowOne (cells := TkV.cells) (k := 8) V #[.bool write, .int .i64 label, .int .i64 key, .int .i64 value, .int .i64 version, .int .i64 (j.asks + 1), .bool done, .bool sure] 73 (⟨write, label, key, value, version, j.asks + 1, done, sure⟩ : TkV) rfl rfl
  rw [← ej] at h0 h1 hn hc
  have hv1 : ({ v with js := v.js.set i { j with asks := j.asks + 1 } } : CkV).js.getD i default = { j with asks := j.asks + 1 } := set_getD _ _ _ hi'
  have hown := (hU.tasksAt (i := i) hi).1
  rw [hv1] at hown
  have HT : Hid (∀ (w5 : World) (a5 : Option Addr) (c5 : Nat), U.grownBy w5 (Value.slice j.ta j.tl j.tc).ownBlock → w5.ownsRow B 73 8 (.slice a5 (j.tl + 1) c5) (j.tl + 1) (flat TkV.cells (j.tasks ++ [⟨write, label, key, value, version, j.asks + 1, done, sure⟩])) → ((Value.slice a5 (j.tl + 1) c5).ownBlock = (Value.slice j.ta j.tl j.tc).ownBlock ∨ (Value.slice a5 (j.tl + 1) c5).ownBlock = some U.heap.size) → ∃ (k : Nat) (r : Rw), (∃ y, ix[i]? = some (k, y)) ∧ Clerk w (w5.setCell ⟨g, i * 6 + 2, none⟩ (.slice a5 (j.tl + 1) c5)) B q { v with js := (v.js.set i { j with asks := j.asks + 1 }).set i (moreTask { j with asks := j.asks + 1 } a5 c5 ⟨write, label, key, value, version, j.asks + 1, done, sure⟩) } ix (more.set k r)) := fun w5 a5 c5 g5 o5 t5 => by
    have := hU.task (i := i) (g := g) hi eg (X' := w5) (a5 := a5) (c5 := c5) (t := ⟨write, label, key, value, version, j.asks + 1, done, sure⟩) (by rw [hv1]; exact g5) (by rw [hv1]; exact o5) (by rw [hv1]; exact t5)
    rw [hv1] at this
    exact this
  have HAP : Hid (some g ≠ (Value.slice j.ta j.tl j.tc).ownBlock) := by
    obtain ⟨x, _, e1, _⟩ := hU.jobs.at (i := i) (by simpa using hi')
    rw [hv1] at e1
    rcases hU.held.own.ap 0 (4 + x.1) _ _ (show _ = some (⟨47, 6, .slice v.ja v.jl v.jc, v.jl, _⟩ : Rw) from rfl) (more_get e1) (by omega) with e | e
    · rw [eg] at e; simp [Value.ownBlock] at e
    · rw [eg] at e; exact e
  obtain ⟨g2, eg2, _, zgU, _, hcU, hfU⟩ := hU.jobAt (i := i) hi
  have e3 : g = g2 := by
    have : ({ v with js := v.js.set i { j with asks := j.asks + 1 } } : CkV).ja = v.ja := rfl
    rw [this, eg] at eg2
    simpa using eg2
  subst e3
  rw [hv1] at hcU
  have u2 := hcU 2 (by decide)
  have v2 := hfU 2 (by decide)
  have u5 := hcU 5 (by decide)
  have v5 := hfU 5 (by decide)
  obtain ⟨g3, eg3, _, zg1, _, hc1, _⟩ := hX1.jobAt (i := i) hi
  have e4 : g = g3 := by
    have : ({ v with js := v.js.set i { j with asks := j.asks + 1 } } : CkV).ja = v.ja := rfl
    rw [this, eg] at eg3
    simpa using eg3
  subst e4
  rw [hv1] at hc1
  have y2 := (bV.cell (p := ⟨g, i * 6 + 2, none⟩) zg1).trans (hc1 2 (by decide))
  have eSz : X1.heap.size = X.heap.size := by rw [eX1]; simp
  have HAB : Hid (some X.heap.size ≠ (Value.slice j.ta j.tl j.tc).ownBlock) := by
    show _ ≠ _
    intro e
    have o1 := (hX1.tasksAt (i := i) hi).1
    rw [hv1] at o1
    have := (o1.lt X.heap.size e.symm).2
    omega
  have ub : U.cell? ⟨X.heap.size, 5, none⟩ = some (.int .i64 (j.asks + 1)) := by rw [← eSz]; exact ((bxV.below bVU bxV.lt).c 5 (by decide)).1
  have HFin : Hid (∀ (w5 : World) (a5 : Option Addr) (c5 : Nat), U.grownBy w5 (Value.slice j.ta j.tl j.tc).ownBlock → w5.ownsRow B 73 8 (.slice a5 (j.tl + 1) c5) (j.tl + 1) (flat TkV.cells (j.tasks ++ [⟨write, label, key, value, version, j.asks + 1, done, sure⟩])) → ((Value.slice a5 (j.tl + 1) c5).ownBlock = (Value.slice j.ta j.tl j.tc).ownBlock ∨ (Value.slice a5 (j.tl + 1) c5).ownBlock = some U.heap.size) → AddIs w ((w5.setCell ⟨g, i * 6 + 2, none⟩ (.slice a5 (j.tl + 1) c5)).setCell ⟨g, i * 6 + 5, none⟩ (.int .i64 0)) B q v i ⟨write, label, key, value, version, ask, done, sure⟩ ix more (.returned (.int .i64 (j.asks + 1)))) := fun w5 a5 c5 g5 o5 t5 => by
    obtain ⟨kx, rx, hkx, hM⟩ := HT.out w5 a5 c5 g5 o5 t5
    have hset : (v.js.set i { j with asks := j.asks + 1 }).set i (moreTask { j with asks := j.asks + 1 } a5 c5 ⟨write, label, key, value, version, j.asks + 1, done, sure⟩) = v.js.set i (moreTask { j with asks := j.asks + 1 } a5 c5 ⟨write, label, key, value, version, j.asks + 1, done, sure⟩) := by rw [List.set_set]
    rw [hset] at hM
    have hv2 : (v.js.set i (moreTask { j with asks := j.asks + 1 } a5 c5 ⟨write, label, key, value, version, j.asks + 1, done, sure⟩)).getD i default = moreTask { j with asks := j.asks + 1 } a5 c5 ⟨write, label, key, value, version, j.asks + 1, done, sure⟩ := set_getD _ _ _ hi'
    have hA := hM.jcell (i := i) (g := g) hi eg 5 (by decide) (.int .i64 0) (addJob j a5 c5 ⟨write, label, key, value, version, ask, done, sure⟩) (by simp only []; rw [hv2]; rfl) (by simp only []; rw [hv2]; exact ⟨rfl, rfl, rfl, rfl, rfl, rfl, rfl, rfl⟩)
    refine ⟨by rw [← ej], a5, c5, kx, rx, hkx, ?_⟩
    rw [← ej]
    simp only [List.set_set] at hA
    exact hA
  have c4 := hc 4 (by decide)
  have c2 := hc 2 (by decide)
  have f4 := hf 4 (by decide)
  simp only [JbV.cells, List.getElem?_cons_zero, List.getElem?_cons_succ] at c4 c2 u2 u5 y2
  have hBU : B ≤ U.heap.size := Nat.le_of_lt (Nat.lt_of_le_of_lt hBg zgU)
  have Hn : Hid ((j.tl + 1) * 56 ≤ 140737488355328) := hn
  have HEJ : Hid (j = v.js.getD i default) := ej
  have hwr : wrap64 (j.asks + 1) = j.asks + 1 := by unfold wrap64; omega
  simp only [TkV.val]
  clear hc hf hn hcU hfU hX1 hU h ej
  go_enter Try.func49, Try.ntmps49
  go_upto_region 3 with (fail)
  rw [← eX1, ← eV]
  have zV := bxV.lt
  have zgV := Nat.lt_of_lt_of_le zg1 bV.size
  rw [eSz] at bxV zV
  have b0 : V.cell? ⟨X.heap.size, 0, none⟩ = some (.bool write) := (bxV.c 0 (by decide)).1
  have b1 : V.cell? ⟨X.heap.size, 1, none⟩ = some (.int .i64 label) := (bxV.c 1 (by decide)).1
  have b2 : V.cell? ⟨X.heap.size, 2, none⟩ = some (.int .i64 key) := (bxV.c 2 (by decide)).1
  have b3 : V.cell? ⟨X.heap.size, 3, none⟩ = some (.int .i64 value) := (bxV.c 3 (by decide)).1
  have b4 : V.cell? ⟨X.heap.size, 4, none⟩ = some (.int .i64 version) := (bxV.c 4 (by decide)).1
  have b5 : V.cell? ⟨X.heap.size, 5, none⟩ = some (.int .i64 (j.asks + 1)) := (bxV.c 5 (by decide)).1
  have b6 : V.cell? ⟨X.heap.size, 6, none⟩ = some (.bool done) := (bxV.c 6 (by decide)).1
  have b7 : V.cell? ⟨X.heap.size, 7, none⟩ = some (.bool sure) := (bxV.c 7 (by decide)).1
  clear eX1 c4 c2 f4 HT eV eSz zg1 bxV hc1
  go_region_law (rw [← eU]; refine St.step_append_row ET (by rfl) (.tmp 21) (.tmp 23) (by rfl) B (.slice j.ta j.tl j.tc) j.tl j.tasks (by rfl) hown _ 1 1 [(⟨write, label, key, value, version, j.asks + 1, done, sure⟩ : TkV)] (by rfl) hone (by have := Hn.out; unfold maxLen; omega) (by exact Hn.out) hBU ?_; intro a5 c5 w5 own5 gr5 at5; have p2 := gr5.cell u2 HAP.out; have p5 := gr5.cell u5 HAP.out; have pb := gr5.cell ub HAB.out; have pf2 := (World.frozen?_of_block (a := ⟨g, i * 6 + 2, none⟩) (gr5.block g zgU HAP.out)).trans v2; have pf5 := (World.frozen?_of_block (a := ⟨g, i * 6 + 5, none⟩) (gr5.block g zgU HAP.out)).trans v5; have zq5 := Nat.lt_of_lt_of_le zgU gr5.size; have hF := HFin.out w5 a5 c5 gr5 own5 at5)
  all_goals
    go_wp2
    go_ret
    exact hF
end Go.Proofs.Ytfhciplckjkflaa.Co
/- The clerk's commit: it is replied, written and told; the job is kept until all know. -/
namespace Go.Proofs.Ytfhciplckjkflaa.Co
open Go.ChangeShapes Go.WideShapes Go.ChangeAt Go.RowKit
open Go.Proofs.Ytfhciplckjkflaa.St (BoxN boxn_new own_below grown_setCell IsRow Elem flat flat_append own_isRow)
set_option linter.unusedVariables false

def comRc (me n : Int) (sa : Option Addr) (sc : Nat) (H : List Int) : RcV := ⟨3, me, n, 0, 0, 0, false, sa, H.length, sc, H⟩
def toldJob (j : JbV) (aa : Option Addr) (ac : Nat) (H : List Int) : JbV := { j with state := 3, aa := aa, al := H.length, ac := ac, age := 0, asked := H }
/-- The clerk behind a commit of the i-th job whose hands are H; rs: what is written. -/
def comV (v : CkV) (i : Nat) (n : Int) (pa : Option Addr) (pc : Nat) (ra : Option Addr) (rc : Nat) (ma : Option Addr) (mc : Nat) (aa : Option Addr) (ac : Nat) (rs : List RcV) (H : List Int) : CkV := { v with com := n, pa := pa, pl := v.pl + 1, pc := pc, ps := v.ps ++ [⟨v.me, 4, n, 0, 0, 0⟩], ra := ra, rl := v.rl + rs.length, rc := rc, rs := v.rs ++ rs, js := v.js.set i (toldJob (v.js.getD i default) aa ac H), ma := ma, ml := v.ml + H.length, mc := mc, ms := v.ms ++ H.map (decM v.me n true) }
def goneV (v : CkV) (n : Int) (pa : Option Addr) (pc : Nat) : CkV := { v with com := n, pa := pa, pl := v.pl + 1, pc := pc, ps := v.ps ++ [⟨v.me, 4, n, 0, 0, 0⟩], jl := (kept n v.js).length, js := kept n v.js }
def ComIs (w X' : World) (B q : Nat) (v : CkV) (i : Nat) (n : Int) (H : List Int) (wr : Bool) (e : Ending) : Prop :=
  e = .returned (.tuple #[]) ∧ (H = [] → ∃ pa pc ix more, Clerk w X' B q (goneV v n pa pc) ix more) ∧ (H ≠ [] → ∃ pa pc ra rc ma mc aa ac sa sc ix more, Clerk w X' B q (comV v i n pa pc ra rc ma mc aa ac (if wr = true then [comRc v.me n sa sc H] else []) H) ix more ∧ (wr = true → ∃ k : Nat, more[k]? = some (siteRow sa H.length sc H)))
theorem ptrEq {g g2 : Nat} {a : Option Addr} (e1 : a = some ⟨g, 0, none⟩) (e2 : a = some ⟨g2, 0, none⟩) : g = g2 := by
  rw [e1] at e2
  simpa using e2
set_option maxRecDepth 100000 in
set_option maxHeartbeats 4000000 in
theorem commit_any {w : World} {B q : Nat} {v : CkV} {ix : List (Nat × Nat)} {more : List Rw} (X : World) (h : Clerk w X B q v ix more) (ls : List (Int × Int)) {i g : Nat} (hi : i < v.jl) (eg : v.ja = some ⟨g, 0, none⟩) (hs : v.s ≤ 1048576) (hm : (v.ml + 1048577) * 96 ≤ 140737488355328) (hr : (v.rl + 1) * 80 ≤ 140737488355328) (hp : (v.pl + 1) * 48 ≤ 140737488355328)
    (hL : ∀ (U : World) (u : CkV) (iy : List (Nat × Nat)) (m' : List Rw), Clerk w U B q u iy m' → IsLabs U v.a v.len v.cap ls) :
    Calls Try.prog 53 #[.pointer (some ⟨q, 0, none⟩), .pointer (some ⟨g, i * 6, none⟩)] X fun e X' => ComIs w X' B q v i (v.js.getD i default).n (handsOf v.s ls v.p v.l (v.js.getD i default).tasks) ((v.js.getD i default).tasks.any fun t => t.write) e := by
  obtain ⟨g', eg', -, zg, -, hc, -⟩ := h.jobAt hi
  obtain rfl := ptrEq eg eg'
  clear eg'
  have hi' : i < v.js.length := by have := h.lens.1; omega
  have bx := h.held.box
  have zq := bx.lt
  have q11 : X.cell? ⟨q, 11, none⟩ = some (.int .i64 v.com) := (bx.c 11 (by decide)).1
  have f11 := (bx.c 11 (by decide)).2
  have x0 : X.cell? ⟨g, i * 6, none⟩ = some (.int .i64 (v.js.getD i default).n) := by simpa [JbV.cells] using hc 0 (by decide)
  have hX1 := h.com (v.js.getD i default).n
  obtain ⟨R, eR⟩ : ∃ R, R = handsOf v.s ls v.p v.l (v.js.getD i default).tasks := ⟨_, rfl⟩
  obtain ⟨WR, eWR⟩ : ∃ b, b = (v.js.getD i default).tasks.any fun t => t.write := ⟨_, rfl⟩
  obtain ⟨JN, eJN⟩ : ∃ JN, JN = (v.js.getD i default).n := ⟨_, rfl⟩
  rw [← eR, ← eWR, ← eJN]
  rw [← eJN] at x0 hX1
  have HLen : Hid (R.length ≤ 1048576) := by
    have := handsTo_len v.s ls v.p v.l (v.js.getD i default).tasks v.s.toNat
    show _ ≤ _
    rw [eR]
    unfold handsOf
    omega
  have HJN : Hid (JN = (v.js.getD i default).n) := eJN
  have Hm : Hid ((v.ml + 1048577) * 96 ≤ 140737488355328) := hm
  have Hr : Hid ((v.rl + 1) * 80 ≤ 140737488355328) := hr
  have Hp : Hid ((v.pl + 1) * 48 ≤ 140737488355328) := hp
  have HL : Hid (∀ (U : World) (u : CkV) (iy : List (Nat × Nat)) (m' : List Rw), Clerk w U B q u iy m' → IsLabs U v.a v.len v.cap ls) := hL
  /- what is known of a job in every later clerk whose jobs are the same -/
  have HJ : Hid (∀ (U : World) (u : CkV) (iy : List (Nat × Nat)) (m' : List Rw), Clerk w U B q u iy m' → u.js = v.js → u.ja = v.ja → u.jl = v.jl → U.cell? ⟨g, i * 6, none⟩ = some (.int .i64 JN) ∧ U.cell? ⟨g, i * 6 + 1, none⟩ = some (.int .i64 (v.js.getD i default).state) ∧ U.cell? ⟨g, i * 6 + 2, none⟩ = some (.slice (v.js.getD i default).ta (v.js.getD i default).tl (v.js.getD i default).tc) ∧ U.cell? ⟨g, i * 6 + 3, none⟩ = some (.slice (v.js.getD i default).aa (v.js.getD i default).al (v.js.getD i default).ac) ∧ U.frozen? ⟨g, i * 6 + 1, none⟩ = false ∧ U.frozen? ⟨g, i * 6 + 3, none⟩ = false ∧ g < U.heap.size ∧ IsTasks U (v.js.getD i default).ta (v.js.getD i default).tl (v.js.getD i default).tc (v.js.getD i default).tasks) := fun U u iy m' hU e1 e2 e3 => by
    obtain ⟨g2, eg2, _, zg2, _, hc2, hf2⟩ := hU.jobAt (i := i) (by rw [e3]; exact hi)
    rw [e2] at eg2
    obtain rfl := ptrEq eg eg2
    have hT := hU.isTasks (i := i) (by rw [e3]; exact hi)
    rw [e1] at hc2 hT
    exact ⟨by rw [HJN.out]; simpa [JbV.cells] using hc2 0 (by decide), by simpa [JbV.cells] using hc2 1 (by decide), by simpa [JbV.cells] using hc2 2 (by decide), by simpa [JbV.cells] using hc2 3 (by decide), hf2 1 (by decide), hf2 3 (by decide), zg2, hT⟩
  have HH : Hid (∀ (U : World) (u : CkV) (iy : List (Nat × Nat)) (m' : List Rw), Clerk w U B q u iy m' → u.s = v.s → u.a = v.a → u.len = v.len → u.cap = v.cap → u.p = v.p → u.l = v.l → u.js = v.js → u.ja = v.ja → u.jl = v.jl → Calls Try.prog 55 #[.pointer (some ⟨q, 0, none⟩), .slice (v.js.getD i default).ta (v.js.getD i default).tl (v.js.getD i default).tc] U fun e X' => HandsIs U X' R e) := fun U u iy m' hU e1 e2 e3 e4 e5 e6 e7 e8 e9 => by
    have := hands_any U hU ls (by rw [e2, e3, e4]; exact HL.out _ _ _ _ hU) _ _ _ _ (HJ.out U u iy m' hU e7 e8 e9).2.2.2.2.2.2.2 (by rw [e1]; exact hs)
    rw [e1, e5, e6, ← eR] at this
    exact this
  obtain ⟨X1, eX1⟩ : ∃ X1, X1 = X.setCell ⟨q, 11, none⟩ (.int .i64 JN) := ⟨_, rfl⟩
  rw [← eX1] at hX1
  have HR : Hid (Calls Try.prog 20 #[.pointer (some ⟨q, 0, none⟩), .agg #[.int .i64 0, .int .i64 4, .int .i64 JN, .int .i64 0, .int .i64 0, .int .i64 0]] X1 fun e X' => e = .returned (.tuple #[]) ∧ ∃ a5 c5, Clerk w X' B q { v with com := JN, pa := a5, pl := v.pl + 1, pc := c5, ps := v.ps ++ [⟨v.me, 4, JN, 0, 0, 0⟩] } ix more) := reply_any X1 hX1 ⟨0, 4, JN, 0, 0, 0⟩ Hp.out
  obtain ⟨y0, -, -, -, -, -, zg1, -⟩ := HJ.out X1 _ ix more hX1 rfl rfl rfl
  have HCt : Hid (∀ (U : World) (u : CkV) (iy : List (Nat × Nat)) (m' : List Rw), Clerk w U B q u iy m' → u.js = v.js → u.ja = v.ja → u.jl = v.jl → Calls Try.prog 72 #[.slice (v.js.getD i default).ta (v.js.getD i default).tl (v.js.getD i default).tc, .func (.func 73) #[] #[]] U fun e w' => e = .returned (.bool WR) ∧ Below U.heap.size U w') := fun U u iy m' hU e1 e2 e3 => by
    have := containsTask_any 73 #[] (fun t => t.write) _ _ _ _ U (HJ.out U u iy m' hU e1 e2 e3).2.2.2.2.2.2.2 (isWrite_asks U)
    rw [← eWR] at this
    exact this
  obtain ⟨J, eJ⟩ : ∃ J, J = v.js.getD i default := ⟨_, rfl⟩
  have HJe : Hid (J = v.js.getD i default) := eJ
  rw [← eJ] at HJ HH HCt
  clear eJN eWR eR hs hm hr hp hL hc bx h hX1 eJ
  go_enter Try.func53, Try.ntmps53
  go_upto_region 1 with (fail)
  rw [← eX1]
  clear eX1 q11 f11 x0
  go_upto_region 2 with (go_at_call 20; refine HR.out.mono ?_; rintro e w1 ⟨rfl, a5, c5, hC1⟩)
  obtain ⟨y0, -, y2, -, -, -, zg2, -⟩ := HJ.out w1 _ ix more hC1 rfl rfl rfl
  have HH1 := HH.out w1 _ ix more hC1 rfl rfl rfl rfl rfl rfl rfl rfl rfl
  have HH1' : Hid (Calls Try.prog 55 #[.pointer (some ⟨q, 0, none⟩), .slice J.ta J.tl J.tc] w1 fun e X' => HandsIs w1 X' R e) := HH1
  clear HH1 HR
  obtain ⟨jn, st, ta, tl, tc, aa, al, ac, asks, age, tasks, asked⟩ := J
  simp only [] at HJ HH HCt HH1' y2
  obtain ⟨N, eN⟩ : ∃ N, N = R.length := ⟨_, rfl⟩
  have HN : Hid (N = R.length) := eN
  have hN : N ≤ 1048576 := by rw [eN]; exact HLen.out
  have HH2 : Hid (Calls Try.prog 55 #[.pointer (some ⟨q, 0, none⟩), .slice ta tl tc] w1 fun e X' => ∃ (a : Option Addr) (c : Nat), e = .returned (.slice a N c) ∧ X'.ownsRow w1.heap.size 3 1 (.slice a N c) N (flat inCell R) ∧ Below w1.heap.size w1 X') := by
    refine HH1'.out.mono ?_
    rintro e u ⟨a, c, rfl, h1, h2⟩
    exact ⟨a, c, by rw [HN.out], by rw [HN.out]; exact h1, h2⟩
  clear eN HH1'
  go_upto_region 3 with (go_at_call 55; refine HH2.out.mono ?_; rintro e w2 ⟨ha, hc, rfl, hown, hb2⟩)
  have hC2 := hC1.add (r := siteRow ha N hc R) hb2 hown
  have HFresh : Hid (∀ (i : Nat) (x : Nat × Nat), ix[i]? = some x → x.1 ≠ more.length ∧ x.2 ≠ more.length) := fun i x e => by
    have := hC1.jobs.inn i x e
    omega
  have HC2 : Hid (Clerk w w2 B q { v with com := JN, pa := a5, pl := v.pl + 1, pc := c5, ps := v.ps ++ [⟨v.me, 4, JN, 0, 0, 0⟩] } ix (more ++ [siteRow ha N hc R])) := hC2
  obtain ⟨y0, -, y2, -, -, -, zg3, -⟩ := HJ.out w2 _ ix _ hC2 rfl rfl rfl
  clear HH2 hown hC1 hC2
  by_cases hz : N = 0
  · have hz' : (N : Int) = 0 := by omega
    have HD : Hid (Calls Try.prog 56 #[.pointer (some ⟨q, 0, none⟩), .int .i64 JN] w2 fun e X' => ComIs w X' B q v i JN R WR e) := by
      refine (drop_any w2 HC2.out JN).mono ?_
      rintro e u ⟨rfl, ix', h5⟩
      refine ⟨rfl, fun _ => ⟨a5, c5, ix', _, h5⟩, fun hR => absurd (List.length_eq_zero_iff.1 (by rw [← HN.out]; exact hz)) hR⟩
    clear hz HC2
    go_wp2_with (go_at_call 56; refine HD.out.mono ?_; rintro e w5 ⟨rfl, h6⟩)
    exact bodyPost_ret (v := .tuple #[]) (by simp [results, Try.results53, go_sem]) rfl ⟨rfl, h6⟩
  · have hz' : ((N : Int) == 0) = false := by simpa using hz
    have HNE : Hid (R ≠ []) := fun e => hz (by rw [HN.out, e]; rfl)
    have HCt2 : Hid (Calls Try.prog 72 #[.slice ta tl tc, .func (.func 73) #[] #[]] w2 fun e w' => e = .returned (.bool WR) ∧ Below w2.heap.size w2 w') := HCt.out w2 _ ix _ HC2.out rfl rfl rfl
    clear HCt hz
    cases WR with
    | false =>
      go_upto_region 7 with (go_at_call 72; refine HCt2.out.mono ?_; rintro e U ⟨rfl, hbU⟩)
      have HCU : Hid (Clerk w U B q { v with com := JN, pa := a5, pl := v.pl + 1, pc := c5, ps := v.ps ++ [⟨v.me, 4, JN, 0, 0, 0⟩] } ix (more ++ [siteRow ha N hc R])) := HC2.out.below hbU
      clear HCt2 HH
      -- the job is to be told
      obtain ⟨z0, z1, z2, z3, zf1, zf3, zg4, -⟩ := HJ.out U _ ix _ HCU.out rfl rfl rfl
      have hT1 := HCU.out.jcell (i := i) (g := g) hi eg 1 (by decide) (.int .i64 3) { v.js.getD i default with state := 3 } rfl ⟨rfl, rfl, rfl, rfl, rfl, rfl, rfl, rfl⟩
      obtain ⟨y9, _, hT2⟩ := hT1.asked (i := i) (g := g) hi eg (k := more.length) (aa := ha) (al := N) (ac := hc) (zs := R) (by simp) HFresh.out
      simp only [List.set_set, set_getD _ _ _ hi'] at hT2
      have hT3 := hT2
      have ej9 : (v.js.set i (askedJob { v.js.getD i default with state := 3 } ha N hc R)).getD i default = askedJob { v.js.getD i default with state := 3 } ha N hc R := set_getD _ _ _ hi'
      obtain ⟨V, eV⟩ : ∃ V, V = (U.setCell ⟨g, i * 6 + 1, none⟩ (.int .i64 3)).setCell ⟨g, i * 6 + 3, none⟩ (.slice ha N hc) := ⟨_, rfl⟩
      rw [← eV] at hT3
      have HTell : Hid (Calls Try.prog 63 #[.pointer (some ⟨q, 0, none⟩), .pointer (some ⟨g, i * 6, none⟩)] V fun e X' => e = .returned (.tuple #[]) ∧ ComIs w X' B q v i JN R false (.returned (.tuple #[]))) := by
        have h7 := tell_any V hT3 (i := i) (g := g) hi eg (by show (((v.js.set i (askedJob { v.js.getD i default with state := 3 } ha N hc R)).getD i default).asked).length ≤ _; rw [ej9]; exact HLen.out) (by exact Hm.out)
        refine h7.mono ?_
        rintro e u ⟨rfl, ma, mc, h8⟩
        refine ⟨rfl, rfl, fun e => absurd e HNE.out, fun _ => ⟨a5, c5, v.ra, v.rc, ma, mc, ha, hc, none, 0, ix.set i (y9.1, more.length), (more ++ [siteRow ha N hc R]), ?_, ?_⟩⟩
        · have e9 : toldV (ageZero { ({ v with com := JN, pa := a5, pl := v.pl + 1, pc := c5, ps := v.ps ++ [⟨v.me, 4, JN, 0, 0, 0⟩] } : CkV) with js := v.js.set i (askedJob { v.js.getD i default with state := 3 } ha N hc R) } i) ma mc (((v.js.set i (askedJob { v.js.getD i default with state := 3 } ha N hc R)).getD i default).n) true (((v.js.set i (askedJob { v.js.getD i default with state := 3 } ha N hc R)).getD i default).asked) = comV v i JN a5 c5 v.ra v.rc ma mc ha hc (if false = true then [comRc v.me JN none 0 R] else []) R := by
            unfold ageZero toldV comV
            simp only [ej9, List.set_set]
            rw [HJN.out, HN.out]
            first | rfl | (simp [askedJob, toldJob]; done)
          rw [← e9]
          exact h8
        · intro e; cases e
      clear hT1 hT2 hT3 HCU HJ HC2
      go_upto_region 8 with (fail)
      rw [← eV]
      clear eV
      go_wp2_with (go_at_call 63; refine HTell.out.mono ?_; rintro e w9 ⟨rfl, h9⟩)
      exact bodyPost_end (v := .tuple #[]) (by simp [results, Try.results53, go_sem]) rfl h9
    | true =>
      go_upto_region 6 with (go_at_call 72; refine HCt2.out.mono ?_; rintro e Y ⟨rfl, hbY⟩)
      have HCY : Hid (Clerk w Y B q { v with com := JN, pa := a5, pl := v.pl + 1, pc := c5, ps := v.ps ++ [⟨v.me, 4, JN, 0, 0, 0⟩] } ix (more ++ [siteRow ha N hc R])) := HC2.out.below hbY
      clear HCt2
      have KC : Hid (∀ U, Below Y.heap.size Y U → U.cell? ⟨g, i * 6, none⟩ = some (.int .i64 JN) ∧ U.cell? ⟨g, i * 6 + 2, none⟩ = some (.slice ta tl tc)) := fun U hU => by
        have := HJ.out U _ ix _ (HCY.out.below hU) rfl rfl rfl
        exact ⟨this.1, this.2.2.1⟩
      have HTx : Hid (∀ U, Below Y.heap.size Y U → Calls Try.prog 44 #[.pointer (some ⟨q, 0, none⟩), .int .i64 JN] U fun e X' => e = .returned (.agg #[.int .i64 v.me, .int .i64 JN]) ∧ Below U.heap.size U X') := fun U hU => txn_any U (HCY.out.below hU) JN
      have HHd : Hid (∀ U, Below Y.heap.size Y U → Calls Try.prog 55 #[.pointer (some ⟨q, 0, none⟩), .slice ta tl tc] U fun e X' => ∃ (a : Option Addr) (c : Nat), e = .returned (.slice a N c) ∧ X'.ownsRow Y.heap.size 3 1 (.slice a N c) N (flat inCell R) ∧ Below U.heap.size U X') := fun U hU => by
        refine (HH.out U _ ix _ (HCY.out.below hU) rfl rfl rfl rfl rfl rfl rfl rfl rfl).mono ?_
        rintro e u ⟨a, c, rfl, h1, h2⟩
        exact ⟨a, c, by rw [HN.out], by rw [HN.out]; exact own_base h1 hU.size, h2⟩
      obtain ⟨D, eD⟩ : ∃ D : World → Prop, D = fun u => ∃ (sa : Option Addr) (sc : Nat) (a8 : Option Addr) (c8 : Nat), Clerk w u B q { v with com := JN, pa := a5, pl := v.pl + 1, pc := c5, ps := v.ps ++ [⟨v.me, 4, JN, 0, 0, 0⟩], ra := a8, rl := v.rl + 1, rc := c8, rs := v.rs ++ [comRc v.me JN sa sc R] } ix ((more ++ [siteRow ha N hc R]) ++ [siteRow sa N sc R]) := ⟨_, rfl⟩
      have HD : Hid (∀ u, D u → ∃ (sa : Option Addr) (sc : Nat) (a8 : Option Addr) (c8 : Nat), Clerk w u B q { v with com := JN, pa := a5, pl := v.pl + 1, pc := c5, ps := v.ps ++ [⟨v.me, 4, JN, 0, 0, 0⟩], ra := a8, rl := v.rl + 1, rc := c8, rs := v.rs ++ [comRc v.me JN sa sc R] } ix ((more ++ [siteRow ha N hc R]) ++ [siteRow sa N sc R])) := fun u hu => by rw [eD] at hu; exact hu
      have HW : Hid (∀ U (sa : Option Addr) (sc : Nat), Below Y.heap.size Y U → U.ownsRow Y.heap.size 3 1 (.slice sa N sc) N (flat inCell R) → Calls Try.prog 43 #[.pointer (some ⟨q, 0, none⟩), .agg #[.int .i64 3, .int .i64 v.me, .int .i64 JN, .int .i64 0, .int .i64 0, .int .i64 0, .bool false, .slice sa N sc]] U fun e X' => e = .returned (.tuple #[]) ∧ D X') := fun U sa sc hU hown => by
        have h7 := HCY.out.add (r := siteRow sa N sc R) hU hown
        have h8 := write_any U h7 (comRc v.me JN sa sc R) Hr.out
        have e8 : (comRc v.me JN sa sc R).val = .agg #[.int .i64 3, .int .i64 v.me, .int .i64 JN, .int .i64 0, .int .i64 0, .int .i64 0, .bool false, .slice sa N sc] := by rw [HN.out]; rfl
        rw [e8] at h8
        refine h8.mono ?_
        rintro e u ⟨rfl, a8, c8, h9⟩
        refine ⟨rfl, ?_⟩
        rw [eD]
        exact ⟨sa, sc, a8, c8, h9⟩
      clear eD HH
      refine wp_region_inv (by kernel_rfl) [40, 41, 42, 43, 44, 45, 46, 47, 48, 49, 50, 51, 52, 53, 54] (fun L T u => ∃ (sa : Option Addr) (sc : Nat), True ∧ (L 0 = true → T 40 = .pointer (some ⟨q, 0, none⟩)) ∧ (L 1 = true → T 41 = .pointer (some ⟨q, 0, none⟩)) ∧ (L 2 = true → T 42 = .pointer (some ⟨g, i * 6, none⟩)) ∧ (L 3 = true → T 43 = .pointer (some ⟨g, i * 6, none⟩)) ∧ (L 4 = true → T 44 = .pointer (some ⟨g, i * 6, none⟩)) ∧ (L 5 = true → T 45 = .int .i64 JN) ∧ (L 6 = true → T 46 = .agg #[.int .i64 v.me, .int .i64 JN]) ∧ (L 7 = true → T 47 = .pointer (some ⟨q, 0, none⟩)) ∧ (L 8 = true → T 48 = .pointer (some ⟨g, i * 6, none⟩)) ∧ (L 9 = true → T 49 = .pointer (some ⟨g, i * 6, none⟩)) ∧ (L 10 = true → T 50 = .pointer (some ⟨g, i * 6 + 2, none⟩)) ∧ (L 11 = true → T 51 = .slice ta tl tc) ∧ (L 12 = true → T 52 = .slice sa N sc) ∧ (L 13 = true → T 53 = .agg #[.int .i64 3, .int .i64 v.me, .int .i64 JN, .int .i64 0, .int .i64 0, .int .i64 0, .bool false, .slice sa N sc]) ∧ (L 14 = false → Below Y.heap.size Y u) ∧ (L 14 = true → D u) ∧ (L 12 = true → L 14 = false → u.ownsRow Y.heap.size 3 1 (.slice sa N sc) N (flat inCell R))) (by decide) (by kernel_rfl) (by kernel_rfl) ?_ ?_ ?_
      · exact ⟨none, 0, trivial, nofun, nofun, nofun, nofun, nofun, nofun, nofun, nofun, nofun, nofun, nofun, nofun, nofun, nofun, fun _ => (Below.refl _ _).drew, nofun, nofun⟩
      · refine ⟨?_, ?_, ?_, ?_, ?_, ?_, ?_, ?_, ?_, ?_, ?_, ?_, ?_, ?_, ?_, trivial⟩
        · rintro L T u hd hk hcl ⟨sa, sc, hb, p0, p1, p2, p3, p4, p5, p6, p7, p8, p9, p10, p11, p12, p13, c1, c2, rw⟩ K hK
          simp only [fr, Act.put, List.setIfInBounds_toArray, List.set_cons_zero, List.set_cons_succ, updO] at hK ⊢
          simp [Region.binds] at hd
          rw [if_pos (by rfl)]
          simp only [Oper.wpv]
          go_simp
          exact hK _ _ ⟨sa, sc, hb, fun _ => rfl, p1, p2, p3, p4, p5, p6, p7, p8, p9, p10, p11, p12, p13, c1, c2, rw⟩
        · rintro L T u hd hk hcl ⟨sa, sc, hb, p0, p1, p2, p3, p4, p5, p6, p7, p8, p9, p10, p11, p12, p13, c1, c2, rw⟩ K hK
          simp only [fr, Act.put, List.setIfInBounds_toArray, List.set_cons_zero, List.set_cons_succ, updO] at hK ⊢
          simp [Region.binds] at hd
          rw [if_pos (by rfl)]
          simp only [Oper.wpv]
          go_simp
          exact hK _ _ ⟨sa, sc, hb, p0, fun _ => rfl, p2, p3, p4, p5, p6, p7, p8, p9, p10, p11, p12, p13, c1, c2, rw⟩
        · rintro L T u hd hk hcl ⟨sa, sc, hb, p0, p1, p2, p3, p4, p5, p6, p7, p8, p9, p10, p11, p12, p13, c1, c2, rw⟩ K hK
          simp only [fr, Act.put, List.setIfInBounds_toArray, List.set_cons_zero, List.set_cons_succ, updO] at hK ⊢
          simp [Region.binds] at hd
          rw [if_pos (by rfl)]
          simp only [Oper.wpv]
          go_simp
          exact hK _ _ ⟨sa, sc, hb, p0, p1, fun _ => rfl, p3, p4, p5, p6, p7, p8, p9, p10, p11, p12, p13, c1, c2, rw⟩
        · rintro L T u hd hk hcl ⟨sa, sc, hb, p0, p1, p2, p3, p4, p5, p6, p7, p8, p9, p10, p11, p12, p13, c1, c2, rw⟩ K hK
          simp only [fr, Act.put, List.setIfInBounds_toArray, List.set_cons_zero, List.set_cons_succ, updO] at hK ⊢
          simp [Region.binds] at hd
          have g2 := p2 (by simp [hd])
          rw [if_pos (by rfl)]
          simp only [Oper.wpv]
          go_simp
          exact hK _ _ ⟨sa, sc, hb, p0, p1, p2, fun _ => rfl, p4, p5, p6, p7, p8, p9, p10, p11, p12, p13, c1, c2, rw⟩
        · rintro L T u hd hk hcl ⟨sa, sc, hb, p0, p1, p2, p3, p4, p5, p6, p7, p8, p9, p10, p11, p12, p13, c1, c2, rw⟩ K hK
          simp only [fr, Act.put, List.setIfInBounds_toArray, List.set_cons_zero, List.set_cons_succ, updO] at hK ⊢
          simp [Region.binds] at hd
          have g3 := p3 (by simp [hd])
          rw [if_pos (by rfl)]
          simp only [Oper.wpv]
          go_simp
          exact hK _ _ ⟨sa, sc, hb, p0, p1, p2, p3, fun _ => rfl, p5, p6, p7, p8, p9, p10, p11, p12, p13, c1, c2, rw⟩
        · rintro L T u hd hk hcl ⟨sa, sc, hb, p0, p1, p2, p3, p4, p5, p6, p7, p8, p9, p10, p11, p12, p13, c1, c2, rw⟩ K hK
          simp only [fr, Act.put, List.setIfInBounds_toArray, List.set_cons_zero, List.set_cons_succ, updO] at hK ⊢
          simp [Region.binds] at hd
          have g4 := p4 (by simp [hd])
          have k14 := hcl 14 _ rfl
          simp [Region.binds] at k14
          have k13 := hcl 13 _ rfl
          simp [Region.binds] at k13
          have k6 := hcl 6 _ rfl
          simp [Region.binds] at k6
          have hE : L 14 = false := by cases h : L 14 with | false => rfl | true => have a14 := k14 h; have a13 := k13 (by simp [a14]); have a6 := k6 (by simp [a13]); simp [hk] at a6
          obtain ⟨xn, xt⟩ := KC.out u (c1 hE)
          rw [if_pos (by rfl)]
          simp only [Oper.wpv]
          go_simp
          exact hK _ _ ⟨sa, sc, hb, p0, p1, p2, p3, p4, fun _ => rfl, p6, p7, p8, p9, p10, p11, p12, p13, c1, c2, rw⟩
        · rintro L T u hd hk hcl ⟨sa, sc, hb, p0, p1, p2, p3, p4, p5, p6, p7, p8, p9, p10, p11, p12, p13, c1, c2, rw⟩ K hK
          simp only [fr, Act.put, List.setIfInBounds_toArray, List.set_cons_zero, List.set_cons_succ, updO] at hK ⊢
          simp [Region.binds] at hd
          have g1 := p1 (by simp [hd])
          have g5 := p5 (by simp [hd])
          have k14 := hcl 14 _ rfl
          simp [Region.binds] at k14
          have k13 := hcl 13 _ rfl
          simp [Region.binds] at k13
          have hE : L 14 = false := by cases h : L 14 with | false => rfl | true => have a14 := k14 h; have a13 := k13 (by simp [a14]); simp [hk] at a13
          rw [if_pos (by rfl)]
          simp only [Oper.wpv]
          go_simp
          refine (HTx.out _ (c1 hE)).mono ?_
          rintro e u1 ⟨rfl, hg⟩
          exact hK _ _ ⟨sa, sc, hb, p0, p1, p2, p3, p4, p5, fun _ => rfl, p7, p8, p9, p10, p11, p12, p13, fun _ => nT (c1 hE) hg, fun h => absurd (show L 14 = true from h) (by simp [hE]), fun h0 h1 => own_below (rw h0 h1) hg⟩
        · rintro L T u hd hk hcl ⟨sa, sc, hb, p0, p1, p2, p3, p4, p5, p6, p7, p8, p9, p10, p11, p12, p13, c1, c2, rw⟩ K hK
          simp only [fr, Act.put, List.setIfInBounds_toArray, List.set_cons_zero, List.set_cons_succ, updO] at hK ⊢
          simp [Region.binds] at hd
          rw [if_pos (by rfl)]
          simp only [Oper.wpv]
          go_simp
          exact hK _ _ ⟨sa, sc, hb, p0, p1, p2, p3, p4, p5, p6, fun _ => rfl, p8, p9, p10, p11, p12, p13, c1, c2, rw⟩
        · rintro L T u hd hk hcl ⟨sa, sc, hb, p0, p1, p2, p3, p4, p5, p6, p7, p8, p9, p10, p11, p12, p13, c1, c2, rw⟩ K hK
          simp only [fr, Act.put, List.setIfInBounds_toArray, List.set_cons_zero, List.set_cons_succ, updO] at hK ⊢
          simp [Region.binds] at hd
          rw [if_pos (by rfl)]
          simp only [Oper.wpv]
          go_simp
          exact hK _ _ ⟨sa, sc, hb, p0, p1, p2, p3, p4, p5, p6, p7, fun _ => rfl, p9, p10, p11, p12, p13, c1, c2, rw⟩
        · rintro L T u hd hk hcl ⟨sa, sc, hb, p0, p1, p2, p3, p4, p5, p6, p7, p8, p9, p10, p11, p12, p13, c1, c2, rw⟩ K hK
          simp only [fr, Act.put, List.setIfInBounds_toArray, List.set_cons_zero, List.set_cons_succ, updO] at hK ⊢
          simp [Region.binds] at hd
          have g8 := p8 (by simp [hd])
          rw [if_pos (by rfl)]
          simp only [Oper.wpv]
          go_simp
          exact hK _ _ ⟨sa, sc, hb, p0, p1, p2, p3, p4, p5, p6, p7, p8, fun _ => rfl, p10, p11, p12, p13, c1, c2, rw⟩
        · rintro L T u hd hk hcl ⟨sa, sc, hb, p0, p1, p2, p3, p4, p5, p6, p7, p8, p9, p10, p11, p12, p13, c1, c2, rw⟩ K hK
          simp only [fr, Act.put, List.setIfInBounds_toArray, List.set_cons_zero, List.set_cons_succ, updO] at hK ⊢
          simp [Region.binds] at hd
          have g9 := p9 (by simp [hd])
          rw [if_pos (by rfl)]
          simp only [Oper.wpv]
          go_simp
          exact hK _ _ ⟨sa, sc, hb, p0, p1, p2, p3, p4, p5, p6, p7, p8, p9, fun _ => rfl, p11, p12, p13, c1, c2, rw⟩
        · rintro L T u hd hk hcl ⟨sa, sc, hb, p0, p1, p2, p3, p4, p5, p6, p7, p8, p9, p10, p11, p12, p13, c1, c2, rw⟩ K hK
          simp only [fr, Act.put, List.setIfInBounds_toArray, List.set_cons_zero, List.set_cons_succ, updO] at hK ⊢
          simp [Region.binds] at hd
          have g10 := p10 (by simp [hd])
          have k14 := hcl 14 _ rfl
          simp [Region.binds] at k14
          have k13 := hcl 13 _ rfl
          simp [Region.binds] at k13
          have k12 := hcl 12 _ rfl
          simp [Region.binds] at k12
          have hE : L 14 = false := by cases h : L 14 with | false => rfl | true => have a14 := k14 h; have a13 := k13 (by simp [a14]); have a12 := k12 (by simp [a13]); simp [hk] at a12
          obtain ⟨xn, xt⟩ := KC.out u (c1 hE)
          rw [if_pos (by rfl)]
          simp only [Oper.wpv]
          go_simp
          exact hK _ _ ⟨sa, sc, hb, p0, p1, p2, p3, p4, p5, p6, p7, p8, p9, p10, fun _ => rfl, p12, p13, c1, c2, rw⟩
        · rintro L T u hd hk hcl ⟨sa, sc, hb, p0, p1, p2, p3, p4, p5, p6, p7, p8, p9, p10, p11, p12, p13, c1, c2, rw⟩ K hK
          simp only [fr, Act.put, List.setIfInBounds_toArray, List.set_cons_zero, List.set_cons_succ, updO] at hK ⊢
          simp [Region.binds] at hd
          have g7 := p7 (by simp [hd])
          have g11 := p11 (by simp [hd])
          have k13 := hcl 13 _ rfl
          simp [Region.binds] at k13
          have k14 := hcl 14 _ rfl
          simp [Region.binds] at k14
          have k14 := hcl 14 _ rfl
          simp [Region.binds] at k14
          have k13 := hcl 13 _ rfl
          simp [Region.binds] at k13
          have hE : L 14 = false := by cases h : L 14 with | false => rfl | true => have a14 := k14 h; have a13 := k13 (by simp [a14]); simp [hk] at a13
          rw [if_pos (by rfl)]
          simp only [Oper.wpv]
          go_simp
          refine (HHd.out _ (c1 hE)).mono ?_
          rintro e u1 ⟨sa1, sc1, rfl, hrw, hg⟩
          exact hK _ _ ⟨sa1, sc1, hb, p0, p1, p2, p3, p4, p5, p6, p7, p8, p9, p10, p11, fun _ => rfl, fun h => absurd (show L 13 = true from h) (by intro h13; have := k13 h13; simp [hk] at this), fun _ => nT (c1 hE) hg, fun h => absurd (show L 14 = true from h) (by simp [hE]), fun _ _ => hrw⟩
        · rintro L T u hd hk hcl ⟨sa, sc, hb, p0, p1, p2, p3, p4, p5, p6, p7, p8, p9, p10, p11, p12, p13, c1, c2, rw⟩ K hK
          simp only [fr, Act.put, List.setIfInBounds_toArray, List.set_cons_zero, List.set_cons_succ, updO] at hK ⊢
          simp [Region.binds] at hd
          have g6 := p6 (by simp [hd])
          have g12 := p12 (by simp [hd])
          rw [if_pos (by rfl)]
          simp only [Oper.wpv]
          go_simp
          exact hK _ _ ⟨sa, sc, hb, p0, p1, p2, p3, p4, p5, p6, p7, p8, p9, p10, p11, p12, fun _ => rfl, c1, c2, rw⟩
        · rintro L T u hd hk hcl ⟨sa, sc, hb, p0, p1, p2, p3, p4, p5, p6, p7, p8, p9, p10, p11, p12, p13, c1, c2, rw⟩ K hK
          simp only [fr, Act.put, List.setIfInBounds_toArray, List.set_cons_zero, List.set_cons_succ, updO] at hK ⊢
          simp [Region.binds] at hd
          have g0 := p0 (by simp [hd])
          have g13 := p13 (by simp [hd])
          have k13 := hcl 13 _ rfl
          simp [Region.binds] at k13
          have hd13 : L 12 = true := by simp [k13 (by simp [hd])]
          have hE : L 14 = false := hk
          rw [if_pos (by rfl)]
          simp only [Oper.wpv]
          go_simp
          refine (HW.out _ _ _ (c1 hE) (rw (by simp [hd13]) hk)).mono ?_
          rintro e u1 ⟨rfl, hg⟩
          exact hK _ _ ⟨sa, sc, hb, p0, p1, p2, p3, p4, p5, p6, p7, p8, p9, p10, p11, p12, p13, fun h => Bool.noConfusion (show true = false from h), fun _ => hg, fun _ h => Bool.noConfusion (show true = false from h)⟩
      · rintro L T u hl ⟨sa, sc, hb, p0, p1, p2, p3, p4, p5, p6, p7, p8, p9, p10, p11, p12, p13, c1, c2, rw⟩
        simp only [fr, Act.put, List.setIfInBounds_toArray, List.set_cons_zero, List.set_cons_succ]
        obtain ⟨sa9, sc9, a8, c8, hCU⟩ := HD.out _ (c2 (hl 14 (by decide)))
        clear p0 p1 p2 p3 p4 p5 p6 p7 p8 p9 p10 p11 p12 p13 c1 c2 rw sa sc HD HW HHd HTx KC
        obtain ⟨U, eU⟩ : ∃ U : World, U = u := ⟨_, rfl⟩
        rw [← eU] at hCU ⊢
        clear eU u
        have HCU : Hid (Clerk w U B q { v with com := JN, pa := a5, pl := v.pl + 1, pc := c5, ps := v.ps ++ [⟨v.me, 4, JN, 0, 0, 0⟩], ra := a8, rl := v.rl + 1, rc := c8, rs := v.rs ++ [comRc v.me JN sa9 sc9 R] } ix ((more ++ [siteRow ha N hc R]) ++ [siteRow sa9 N sc9 R])) := hCU
        clear hCU D HCY
        -- the job is to be told
        obtain ⟨z0, z1, z2, z3, zf1, zf3, zg4, -⟩ := HJ.out U _ ix _ HCU.out rfl rfl rfl
        have hT1 := HCU.out.jcell (i := i) (g := g) hi eg 1 (by decide) (.int .i64 3) { v.js.getD i default with state := 3 } rfl ⟨rfl, rfl, rfl, rfl, rfl, rfl, rfl, rfl⟩
        obtain ⟨y9, _, hT2⟩ := hT1.asked (i := i) (g := g) hi eg (k := more.length) (aa := ha) (al := N) (ac := hc) (zs := R) (by simp) HFresh.out
        simp only [List.set_set, set_getD _ _ _ hi'] at hT2
        have hT3 := hT2
        have ej9 : (v.js.set i (askedJob { v.js.getD i default with state := 3 } ha N hc R)).getD i default = askedJob { v.js.getD i default with state := 3 } ha N hc R := set_getD _ _ _ hi'
        obtain ⟨V, eV⟩ : ∃ V, V = (U.setCell ⟨g, i * 6 + 1, none⟩ (.int .i64 3)).setCell ⟨g, i * 6 + 3, none⟩ (.slice ha N hc) := ⟨_, rfl⟩
        rw [← eV] at hT3
        have HTell : Hid (Calls Try.prog 63 #[.pointer (some ⟨q, 0, none⟩), .pointer (some ⟨g, i * 6, none⟩)] V fun e X' => e = .returned (.tuple #[]) ∧ ComIs w X' B q v i JN R true (.returned (.tuple #[]))) := by
          have h7 := tell_any V hT3 (i := i) (g := g) hi eg (by show (((v.js.set i (askedJob { v.js.getD i default with state := 3 } ha N hc R)).getD i default).asked).length ≤ _; rw [ej9]; exact HLen.out) (by exact Hm.out)
          refine h7.mono ?_
          rintro e u ⟨rfl, ma, mc, h8⟩
          refine ⟨rfl, rfl, fun e => absurd e HNE.out, fun _ => ⟨a5, c5, a8, c8, ma, mc, ha, hc, sa9, sc9, ix.set i (y9.1, more.length), ((more ++ [siteRow ha N hc R]) ++ [siteRow sa9 N sc9 R]), ?_, ?_⟩⟩
          · have e9 : toldV (ageZero { ({ v with com := JN, pa := a5, pl := v.pl + 1, pc := c5, ps := v.ps ++ [⟨v.me, 4, JN, 0, 0, 0⟩], ra := a8, rl := v.rl + 1, rc := c8, rs := v.rs ++ [comRc v.me JN sa9 sc9 R] } : CkV) with js := v.js.set i (askedJob { v.js.getD i default with state := 3 } ha N hc R) } i) ma mc (((v.js.set i (askedJob { v.js.getD i default with state := 3 } ha N hc R)).getD i default).n) true (((v.js.set i (askedJob { v.js.getD i default with state := 3 } ha N hc R)).getD i default).asked) = comV v i JN a5 c5 a8 c8 ma mc ha hc (if true = true then [comRc v.me JN sa9 sc9 R] else []) R := by
              unfold ageZero toldV comV
              simp only [ej9, List.set_set]
              rw [HJN.out, HN.out]
              first | rfl | (simp [askedJob, toldJob]; done)
            rw [← e9]
            exact h8
          · intro _; exact ⟨more.length + 1, by rw [HN.out]; simp⟩
        clear hT1 hT2 hT3 HCU HJ HC2
        go_upto_region 8 with (fail)
        rw [← eV]
        clear eV
        go_wp2_with (go_at_call 63; refine HTell.out.mono ?_; rintro e w9 ⟨rfl, h9⟩)
        exact bodyPost_end (v := .tuple #[]) (by simp [results, Try.results53, go_sem]) rfl h9
end Go.Proofs.Ytfhciplckjkflaa.Co
