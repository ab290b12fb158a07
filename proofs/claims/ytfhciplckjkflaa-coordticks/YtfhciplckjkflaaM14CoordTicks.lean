/- Texts of this claim, one behind the other. -/
import Derived.Test.YtfhciplckjkflaaM12CoordTicks
import Derived.Test.YtfhciplckjkflaaM13CoordTicks
import Derived.Test.YtfhciplckjkflaaM10CoordTicks
import Derived.BigQuiet
import Derived.LoopTactic
import Derived.Deep.QuietTactic
/- What becomes of the clerk when a cell of a job, a job's list, or a cell of the box is told, or a job is dropped. -/
namespace Go.Proofs.Ytfhciplckjkflaa.Co
open Go.ChangeShapes Go.WideShapes Go.ChangeAt Go.RowKit
open Go.Proofs.Ytfhciplckjkflaa.St (BoxN boxn_new own_below grown_setCell IsRow Elem flat flat_append own_isRow idxI idxI_lt own_setk)
set_option linter.unusedVariables false

theorem flat_cons {α : Type} (cells : α → List Value) (a : α) (l : List α) : flat cells (a :: l) = cells a ++ flat cells l := by simp [flat]
theorem flat_set6 : ∀ (js : List JbV) (i : Nat) (j' : JbV) (c : Nat) (u : Value), i < js.length → c < 6 → j'.cells = (js.getD i default).cells.set c u → flat JbV.cells (js.set i j') = (flat JbV.cells js).set (i * 6 + c) u
  | [], i, _, _, _, hi, _, _ => by simp at hi
  | a :: l, 0, j', c, u, _, hc, hj => by
    simp at hj
    rw [List.set_cons_zero, flat_cons, flat_cons, hj, Nat.zero_mul, Nat.zero_add, List.set_append_left _ _ (by rw [jb_len]; exact hc)]
  | a :: l, i + 1, j', c, u, hi, hc, hj => by
    simp at hi hj
    rw [List.set_cons_succ, flat_cons, flat_cons, flat_set6 l i j' c u hi hc (by simpa using hj), List.set_append_right _ _ (by rw [jb_len]; omega), jb_len]
    congr 2
    omega
/-- The same lists at the same places. -/
def sameL (j k : JbV) : Prop := j.ta = k.ta ∧ j.tl = k.tl ∧ j.tc = k.tc ∧ j.aa = k.aa ∧ j.al = k.al ∧ j.ac = k.ac ∧ j.tasks = k.tasks ∧ j.asked = k.asked
theorem getD_of {α : Type} [Inhabited α] {l : List α} {i : Nat} {x : α} (e : l[i]? = some x) : l.getD i default = x := by simp [List.getD, e]
theorem JobsIn.same {js : List JbV} {ix : List (Nat × Nat)} {more : List Rw} (h : JobsIn js ix more) {i : Nat} {j' : JbV} (hi : i < js.length) (hs : sameL j' (js.getD i default)) : JobsIn (js.set i j') ix more := by
  obtain ⟨h1, h2, h3, h4⟩ := h
  refine ⟨by simpa using h1, fun k j x ej ex => ?_, h3, h4⟩
  have eo : js[i]? = some (js.getD i default) := by simp [List.getD, hi]
  rcases set_get eo ej with ⟨rfl, rfl⟩ | ⟨_, ej⟩
  · have := h2 k _ x eo ex
    obtain ⟨e1, e2, e3, e4, e5, e6, e7, e8⟩ := hs
    rw [e1, e2, e3, e4, e5, e6, e7, e8]
    exact this
  · exact h2 k j x ej ex
/-- A plain cell of a job is told. -/
theorem Clerk.jcell {w X : World} {B q : Nat} {v : CkV} {ix : List (Nat × Nat)} {more : List Rw} (h : Clerk w X B q v ix more) {i g : Nat} (hi : i < v.jl) (eg : v.ja = some ⟨g, 0, none⟩) (c : Nat) (hc : c < 6) (u : Value) (j' : JbV) (hj : j'.cells = (v.js.getD i default).cells.set c u) (hs : sameL j' (v.js.getD i default)) :
    Clerk w (X.setCell ⟨g, i * 6 + c, none⟩ u) B q { v with js := v.js.set i j' } ix more := by
  have hl := h.lens.1
  have hi' : i < v.js.length := by omega
  have e0 : (v.rows ++ more)[0]? = some ⟨47, 6, .slice (some ⟨g, 0, none⟩) v.jl v.jc, v.jl, flat JbV.cells v.js⟩ := by rw [← eg]; rfl
  have h1 := h.held.cell e0 (j := i * 6 + c) (by omega) u
  rw [← flat_set6 v.js i j' c u hi' hc hj] at h1
  refine ⟨?_, h.jobs.same hi' hs, by simpa using hl, h.lens.2.1, h.lens.2.2.1, h.lens.2.2.2⟩
  have er : ({ v with js := v.js.set i j' } : CkV).rows ++ more = (v.rows ++ more).set 0 ⟨47, 6, .slice (some ⟨g, 0, none⟩) v.jl v.jc, v.jl, flat JbV.cells (v.js.set i j')⟩ := by rw [← eg]; rfl
  rw [er]
  exact h1
/-- A cell of the box that leads to no list. -/
theorem Clerk.next {w X : World} {B q : Nat} {v : CkV} {ix : List (Nat × Nat)} {more : List Rw} (h : Clerk w X B q v ix more) (n : Int) : Clerk w (X.setCell ⟨q, 5, none⟩ (.int .i64 n)) B q { v with next := n } ix more := ⟨h.held.tell 5 (by decide) _, h.jobs, h.lens⟩
theorem Clerk.sure {w X : World} {B q : Nat} {v : CkV} {ix : List (Nat × Nat)} {more : List Rw} (h : Clerk w X B q v ix more) (n : Int) : Clerk w (X.setCell ⟨q, 10, none⟩ (.int .i64 n)) B q { v with sure := n } ix more := ⟨h.held.tell 10 (by decide) _, h.jobs, h.lens⟩
theorem Clerk.com {w X : World} {B q : Nat} {v : CkV} {ix : List (Nat × Nat)} {more : List Rw} (h : Clerk w X B q v ix more) (n : Int) : Clerk w (X.setCell ⟨q, 11, none⟩ (.int .i64 n)) B q { v with com := n } ix more := ⟨h.held.tell 11 (by decide) _, h.jobs, h.lens⟩
/-- The places of a job's rows. -/
theorem JobsIn.at {js : List JbV} {ix : List (Nat × Nat)} {more : List Rw} (h : JobsIn js ix more) {i : Nat} (hi : i < js.length) : ∃ x, ix[i]? = some x ∧ more[x.1]? = some ⟨73, 8, .slice (js.getD i default).ta (js.getD i default).tl (js.getD i default).tc, (js.getD i default).tl, flat TkV.cells (js.getD i default).tasks⟩ ∧ more[x.2]? = some ⟨3, 1, .slice (js.getD i default).aa (js.getD i default).al (js.getD i default).ac, (js.getD i default).al, flat inCell (js.getD i default).asked⟩ := by
  have hx : i < ix.length := by rw [h.1]; exact hi
  have e1 : js[i]? = some (js.getD i default) := by simp [List.getD, hi]
  have e2 : ix[i]? = some ix[i] := List.getElem?_eq_getElem hx
  exact ⟨ix[i], e2, h.2.1 i _ _ e1 e2⟩
theorem more_get {v : CkV} {more : List Rw} {k : Nat} {r : Rw} (e : more[k]? = some r) : (v.rows ++ more)[4 + k]? = some r := by
  rw [List.getElem?_append_right (by simp [CkV.rows])]
  simpa [CkV.rows] using e
/-- The tasks of a job, as rows of the call's own. -/
theorem Clerk.tasksAt {w X : World} {B q : Nat} {v : CkV} {ix : List (Nat × Nat)} {more : List Rw} (h : Clerk w X B q v ix more) {i : Nat} (hi : i < v.jl) : X.ownsRow B 73 8 (.slice (v.js.getD i default).ta (v.js.getD i default).tl (v.js.getD i default).tc) (v.js.getD i default).tl (flat TkV.cells (v.js.getD i default).tasks) ∧ X.ownsRow B 3 1 (.slice (v.js.getD i default).aa (v.js.getD i default).al (v.js.getD i default).ac) (v.js.getD i default).al (flat inCell (v.js.getD i default).asked) := by
  obtain ⟨x, _, e1, e2⟩ := h.jobs.at (i := i) (by have := h.lens.1; omega)
  exact ⟨h.held.own.own _ _ (more_get e1), h.held.own.own _ _ (more_get e2)⟩
theorem own_count {α : Type} {k : Nat} {cells : α → List Value} (hk : ∀ x, (cells x).length = k) (h0 : 0 < k) {w : World} {B : Nat} {te : TypeId} {v : Value} {n : Nat} {xs : List α} (h : w.ownsRow B te k v n (flat cells xs)) : xs.length = n := St.own_len hk h0 h
theorem Clerk.fit {w X : World} {B q : Nat} {v : CkV} {ix : List (Nat × Nat)} {more : List Rw} (h : Clerk w X B q v ix more) {i : Nat} (hi : i < v.jl) : (v.js.getD i default).tasks.length = (v.js.getD i default).tl ∧ (v.js.getD i default).asked.length = (v.js.getD i default).al :=
  ⟨own_count tk_len (by decide) (h.tasksAt hi).1, own_count in_len (by decide) (h.tasksAt hi).2⟩
theorem Clerk.isTasks {w X : World} {B q : Nat} {v : CkV} {ix : List (Nat × Nat)} {more : List Rw} (h : Clerk w X B q v ix more) {i : Nat} (hi : i < v.jl) : IsTasks X (v.js.getD i default).ta (v.js.getD i default).tl (v.js.getD i default).tc (v.js.getD i default).tasks := (own_isRow tk_len (h.tasksAt hi).1 (h.fit hi).1).1
theorem Clerk.isSites {w X : World} {B q : Nat} {v : CkV} {ix : List (Nat × Nat)} {more : List Rw} (h : Clerk w X B q v ix more) {i : Nat} (hi : i < v.jl) : IsSites X (v.js.getD i default).aa (v.js.getD i default).al (v.js.getD i default).ac (v.js.getD i default).asked := (own_isRow in_len (h.tasksAt hi).2 (h.fit hi).2).1

/-! ### Jobs that are left -/
theorem JobsIn.pairs {js : List JbV} {ix : List (Nat × Nat)} {more : List Rw} (h : JobsIn js ix more) :
    (∀ z ∈ js.zip ix, more[z.2.1]? = some ⟨73, 8, .slice z.1.ta z.1.tl z.1.tc, z.1.tl, flat TkV.cells z.1.tasks⟩ ∧ more[z.2.2]? = some ⟨3, 1, .slice z.1.aa z.1.al z.1.ac, z.1.al, flat inCell z.1.asked⟩ ∧ z.2.1 ≠ z.2.2) ∧ (js.zip ix).Pairwise (fun x y => x.2.1 ≠ y.2.1 ∧ x.2.1 ≠ y.2.2 ∧ x.2.2 ≠ y.2.1 ∧ x.2.2 ≠ y.2.2) := by
  obtain ⟨h1, h2, h3, h4⟩ := h
  have get : ∀ (i : Nat) (hi : i < (js.zip ix).length), js[i]? = some (js.zip ix)[i].1 ∧ ix[i]? = some (js.zip ix)[i].2 := by
    intro i hi
    have hl : i < js.length ∧ i < ix.length := by simp at hi; omega
    simp [hl.1, hl.2]
  refine ⟨fun z hz => ?_, ?_⟩
  · obtain ⟨i, hi, rfl⟩ := List.getElem_of_mem hz
    obtain ⟨e1, e2⟩ := get i hi
    have := h2 i _ _ e1 e2
    exact ⟨this.1, this.2, h4 i _ e2⟩
  · rw [List.pairwise_iff_getElem]
    intro i j hi hj hij
    exact h3 i j _ _ (get i hi).2 (get j hj).2 (by omega)
theorem JobsIn.ofPairs {zs : List (JbV × (Nat × Nat))} {more : List Rw} (h1 : ∀ z ∈ zs, more[z.2.1]? = some ⟨73, 8, .slice z.1.ta z.1.tl z.1.tc, z.1.tl, flat TkV.cells z.1.tasks⟩ ∧ more[z.2.2]? = some ⟨3, 1, .slice z.1.aa z.1.al z.1.ac, z.1.al, flat inCell z.1.asked⟩ ∧ z.2.1 ≠ z.2.2) (h2 : zs.Pairwise (fun x y => x.2.1 ≠ y.2.1 ∧ x.2.1 ≠ y.2.2 ∧ x.2.2 ≠ y.2.1 ∧ x.2.2 ≠ y.2.2)) : JobsIn (zs.map (·.1)) (zs.map (·.2)) more := by
  have get : ∀ (i : Nat) (j : JbV) (x : Nat × Nat), (zs.map (·.1))[i]? = some j → (zs.map (·.2))[i]? = some x → zs[i]? = some (j, x) := by
    intro i j x e1 e2
    rw [List.getElem?_map] at e1 e2
    cases hz : zs[i]? with
    | none => rw [hz] at e1; simp at e1
    | some z => rw [hz] at e1 e2; simp at e1 e2; rw [← e1, ← e2]
  have get2 : ∀ (i : Nat) (x : Nat × Nat), (zs.map (·.2))[i]? = some x → ∃ (hi : i < zs.length), zs[i].2 = x := by
    intro i x e
    rw [List.getElem?_map] at e
    cases hz : zs[i]? with
    | none => rw [hz] at e; simp at e
    | some z =>
      obtain ⟨hi, e2⟩ := List.getElem?_eq_some_iff.1 hz
      rw [hz] at e
      simp at e
      exact ⟨hi, by rw [e2]; exact e⟩
  refine ⟨by simp, fun i j x e1 e2 => ?_, fun i k x y ex ey hik => ?_, fun i x ex => ?_⟩
  · have := h1 (j, x) (List.mem_of_getElem? (get i j x e1 e2))
    exact ⟨this.1, this.2.1⟩
  · obtain ⟨hi, rfl⟩ := get2 i x ex
    obtain ⟨hk, rfl⟩ := get2 k y ey
    rw [List.pairwise_iff_getElem] at h2
    rcases Nat.lt_or_gt_of_ne hik with hlt | hlt
    · exact h2 i k hi hk hlt
    · obtain ⟨a, b, c, d⟩ := h2 k i hk hi hlt
      exact ⟨a.symm, c.symm, b.symm, d.symm⟩
  · obtain ⟨hi, rfl⟩ := get2 i x ex
    exact (h1 _ (List.getElem_mem hi)).2.2
theorem zip_fst : ∀ (js : List JbV) (ix : List (Nat × Nat)), ix.length = js.length → (js.zip ix).map (·.1) = js
  | [], _, _ => by simp
  | a :: l, [], h => by simp at h
  | a :: l, b :: m, h => by simp at h; simp [zip_fst l m h]
theorem JobsIn.keep {js : List JbV} {ix : List (Nat × Nat)} {more : List Rw} (h : JobsIn js ix more) (p : JbV → Bool) : ∃ ix', JobsIn (Co.keep p js) ix' more := by
  obtain ⟨h1, h2⟩ := h.pairs
  refine ⟨((js.zip ix).filter (fun z => !(p z.1))).map (·.2), ?_⟩
  have := JobsIn.ofPairs (zs := (js.zip ix).filter (fun z => !(p z.1))) (more := more) (fun z hz => h1 z (List.mem_filter.1 hz).1) (h2.filter _)
  have e : ((js.zip ix).filter (fun z => !(p z.1))).map (·.1) = Co.keep p js := by
    unfold Co.keep
    conv => rhs; rw [← zip_fst js ix h.1]
    rw [List.filter_map]
    rfl
  rw [← e]
  exact this
end Go.Proofs.Ytfhciplckjkflaa.Co
/- The clerk's drop: the job with that number is taken out. -/
namespace Go.Proofs.Ytfhciplckjkflaa.Co
open Go.ChangeShapes Go.WideShapes Go.ChangeAt Go.RowKit
open Go.Proofs.Ytfhciplckjkflaa.St (BoxN boxn_new own_below grown_setCell IsRow Elem flat flat_append own_isRow idxI idxI_lt own_setk)
set_option linter.unusedVariables false

theorem numbered_asksG (b0 : Nat) (n : Int) (row : Option Nat) (w : World) (c0 : w.cell? ⟨b0, 0, none⟩ = some (.int .i64 n)) (z0 : b0 < w.heap.size) (hr : some b0 ≠ row) : AsksG 67 #[.pointer (some ⟨b0, 0, none⟩)] JbV.val (isN n) row w := by
  refine ⟨enters_of Try.func67 (by kernel_rfl) rfl, fun x w' hg => ?_⟩
  have c1 : w'.cell? ⟨b0, 0, none⟩ = some (.int .i64 n) := hg.cell c0 hr
  exact (numbered_asks b0 n w' c1 (Nat.lt_of_lt_of_le z0 hg.size)).2 x w' (Below.refl _ _)
theorem own_blk (a : Option Addr) (n c m d : Nat) : (Value.slice a n c).ownBlock = (Value.slice a m d).ownBlock := by cases a <;> rfl
def kept (n : Int) (js : List JbV) : List JbV := keep (isN n) js
def keptRow (v : CkV) (n : Int) : Rw := ⟨47, 6, .slice v.ja (kept n v.js).length v.jc, (kept n v.js).length, flat JbV.cells (kept n v.js)⟩
theorem Clerk.dropped {w X : World} {B q : Nat} {v : CkV} {ix : List (Nat × Nat)} {more : List Rw} {n : Int} (hj : JobsIn v.js ix more) (hl : v.js.length = v.jl ∧ v.ms.length = v.ml ∧ v.rs.length = v.rl ∧ v.ps.length = v.pl) (h : Held w X B q 12 (v.cells.set 6 (.slice v.ja (kept n v.js).length v.jc)) ((v.rows ++ more).set 0 (keptRow v n))) : ∃ ix', Clerk w X B q { v with jl := (kept n v.js).length, js := kept n v.js } ix' more := by
  obtain ⟨ix', hj'⟩ := hj.keep (isN n)
  exact ⟨ix', ⟨h, hj', rfl, hl.2⟩⟩
set_option maxRecDepth 100000 in
set_option maxHeartbeats 4000000 in
theorem drop_any {w : World} {B q : Nat} {v : CkV} {ix : List (Nat × Nat)} {more : List Rw} (X : World) (h : Clerk w X B q v ix more) (n : Int) :
    Calls Try.prog 56 #[.pointer (some ⟨q, 0, none⟩), .int .i64 n] X fun e X' => e = .returned (.tuple #[]) ∧ ∃ ix', Clerk w X' B q { v with jl := (kept n v.js).length, js := kept n v.js } ix' more := by
  have HX : Hid (Clerk w X B q v ix more) := h
  have zq := h.held.box.lt
  have HG : Hid (∀ g, (Value.slice v.ja v.jl v.jc).ownBlock = some g → g < X.heap.size) := fun g eg => (h.jobRow.lt g eg).2
  go_enter Try.func56, Try.ntmps56
  clear h
  go_upto_region 0 with (fail)
  refine wp_region_inv (by kernel_rfl) [4, 5, 6, 7, 8, 9, 10, 11, 12, 13, 14, 15, 16, 17] (fun L T u => ∃ (b0 : Nat), X.heap.size ≤ u.heap.size ∧ (L 0 = true → T 4 = .pointer (some ⟨q, 0, none⟩)) ∧ (L 1 = true → T 5 = .pointer (some ⟨q, 0, none⟩)) ∧ (L 2 = true → T 6 = .pointer (some ⟨q, 0, none⟩)) ∧ (L 3 = true → T 7 = .pointer (some ⟨q, 5, none⟩)) ∧ (L 4 = true → T 8 = .pointer (some ⟨q, 5, none⟩)) ∧ (L 5 = true → T 9 = .pointer (some ⟨q, 6, none⟩)) ∧ (L 6 = true → T 10 = .slice v.ja v.jl v.jc) ∧ (L 7 = true → T 11 = .int .i64 n) ∧ (L 8 = true → T 12 = .func (.func 67) #[] #[.pointer (some ⟨b0, 0, none⟩)]) ∧ (L 8 = true → L 9 = false → (u.cell? ⟨b0, 0, none⟩ = some (.int .i64 n) ∧ X.heap.size ≤ b0 ∧ b0 < u.heap.size)) ∧ (L 9 = true → T 13 = .slice v.ja (kept n v.js).length v.jc) ∧ (L 10 = true → T 14 = .pointer (some ⟨q, 0, none⟩)) ∧ (L 11 = true → T 15 = .pointer (some ⟨q, 5, none⟩)) ∧ (L 12 = true → T 16 = .pointer (some ⟨q, 5, none⟩)) ∧ (L 13 = true → T 17 = .pointer (some ⟨q, 6, none⟩)) ∧ (L 9 = false → Clerk w u B q v ix more) ∧ (L 9 = true → L 14 = false → Held w u B q 12 v.cells ((v.rows ++ more).set 0 (keptRow v n))) ∧ (L 14 = true → Held w u B q 12 (v.cells.set 6 (.slice v.ja (kept n v.js).length v.jc)) ((v.rows ++ more).set 0 (keptRow v n)))) (by decide) (by kernel_rfl) (by kernel_rfl) ?_ ?_ ?_
  · exact ⟨0, Nat.le_refl _, nofun, nofun, nofun, nofun, nofun, nofun, nofun, nofun, nofun, nofun, nofun, nofun, nofun, nofun, nofun, fun _ => HX.out.below (Below.refl _ _).drew, nofun, nofun⟩
  · refine ⟨?_, ?_, ?_, ?_, ?_, ?_, ?_, ?_, ?_, ?_, ?_, ?_, ?_, ?_, ?_, trivial⟩
    · rintro L T u hd hk hcl ⟨b0, hb, p0, p1, p2, p3, p4, p5, p6, p7, p8, p8w, p9, p10, p11, p12, p13, c1, c2, c3⟩ K hK
      simp only [fr, Act.put, List.setIfInBounds_toArray, List.set_cons_zero, List.set_cons_succ, updO] at hK ⊢
      simp [Region.binds] at hd
      rw [if_pos (by rfl)]
      simp only [Oper.wpv]
      go_simp
      exact hK _ _ ⟨b0, hb, fun _ => rfl, p1, p2, p3, p4, p5, p6, p7, p8, p8w, p9, p10, p11, p12, p13, c1, c2, c3⟩
    · rintro L T u hd hk hcl ⟨b0, hb, p0, p1, p2, p3, p4, p5, p6, p7, p8, p8w, p9, p10, p11, p12, p13, c1, c2, c3⟩ K hK
      simp only [fr, Act.put, List.setIfInBounds_toArray, List.set_cons_zero, List.set_cons_succ, updO] at hK ⊢
      simp [Region.binds] at hd
      rw [if_pos (by rfl)]
      simp only [Oper.wpv]
      go_simp
      exact hK _ _ ⟨b0, hb, p0, fun _ => rfl, p2, p3, p4, p5, p6, p7, p8, p8w, p9, p10, p11, p12, p13, c1, c2, c3⟩
    · rintro L T u hd hk hcl ⟨b0, hb, p0, p1, p2, p3, p4, p5, p6, p7, p8, p8w, p9, p10, p11, p12, p13, c1, c2, c3⟩ K hK
      simp only [fr, Act.put, List.setIfInBounds_toArray, List.set_cons_zero, List.set_cons_succ, updO] at hK ⊢
      simp [Region.binds] at hd
      have g1 := p1 (by simp [hd])
      rw [if_pos (by rfl)]
      simp only [Oper.wpv]
      go_simp
      exact hK _ _ ⟨b0, hb, p0, p1, fun _ => rfl, p3, p4, p5, p6, p7, p8, p8w, p9, p10, p11, p12, p13, c1, c2, c3⟩
    · rintro L T u hd hk hcl ⟨b0, hb, p0, p1, p2, p3, p4, p5, p6, p7, p8, p8w, p9, p10, p11, p12, p13, c1, c2, c3⟩ K hK
      simp only [fr, Act.put, List.setIfInBounds_toArray, List.set_cons_zero, List.set_cons_succ, updO] at hK ⊢
      simp [Region.binds] at hd
      have g2 := p2 (by simp [hd])
      rw [if_pos (by rfl)]
      simp only [Oper.wpv]
      go_simp
      exact hK _ _ ⟨b0, hb, p0, p1, p2, fun _ => rfl, p4, p5, p6, p7, p8, p8w, p9, p10, p11, p12, p13, c1, c2, c3⟩
    · rintro L T u hd hk hcl ⟨b0, hb, p0, p1, p2, p3, p4, p5, p6, p7, p8, p8w, p9, p10, p11, p12, p13, c1, c2, c3⟩ K hK
      simp only [fr, Act.put, List.setIfInBounds_toArray, List.set_cons_zero, List.set_cons_succ, updO] at hK ⊢
      simp [Region.binds] at hd
      have g3 := p3 (by simp [hd])
      rw [if_pos (by rfl)]
      simp only [Oper.wpv]
      go_simp
      exact hK _ _ ⟨b0, hb, p0, p1, p2, p3, fun _ => rfl, p5, p6, p7, p8, p8w, p9, p10, p11, p12, p13, c1, c2, c3⟩
    · rintro L T u hd hk hcl ⟨b0, hb, p0, p1, p2, p3, p4, p5, p6, p7, p8, p8w, p9, p10, p11, p12, p13, c1, c2, c3⟩ K hK
      simp only [fr, Act.put, List.setIfInBounds_toArray, List.set_cons_zero, List.set_cons_succ, updO] at hK ⊢
      simp [Region.binds] at hd
      have g4 := p4 (by simp [hd])
      rw [if_pos (by rfl)]
      simp only [Oper.wpv]
      go_simp
      exact hK _ _ ⟨b0, hb, p0, p1, p2, p3, p4, fun _ => rfl, p6, p7, p8, p8w, p9, p10, p11, p12, p13, c1, c2, c3⟩
    · rintro L T u hd hk hcl ⟨b0, hb, p0, p1, p2, p3, p4, p5, p6, p7, p8, p8w, p9, p10, p11, p12, p13, c1, c2, c3⟩ K hK
      simp only [fr, Act.put, List.setIfInBounds_toArray, List.set_cons_zero, List.set_cons_succ, updO] at hK ⊢
      simp [Region.binds] at hd
      have g5 := p5 (by simp [hd])
      have k9 := hcl 9 _ rfl
      simp [Region.binds] at k9
      have h9 : L 9 = false := by cases h : L 9 with | false => rfl | true => have := k9 h; simp [hk] at this
      have hC := c1 h9
      have x6 : u.cell? ⟨q, 6, none⟩ = some (.slice v.ja v.jl v.jc) := (hC.held.box.c 6 (by decide)).1
      have zx := hC.held.box.lt
      clear hC
      rw [if_pos (by rfl)]
      simp only [Oper.wpv]
      go_simp
      exact hK _ _ ⟨b0, hb, p0, p1, p2, p3, p4, p5, fun _ => rfl, p7, p8, p8w, p9, p10, p11, p12, p13, c1, c2, c3⟩
    · rintro L T u hd hk hcl ⟨b0, hb, p0, p1, p2, p3, p4, p5, p6, p7, p8, p8w, p9, p10, p11, p12, p13, c1, c2, c3⟩ K hK
      simp only [fr, Act.put, List.setIfInBounds_toArray, List.set_cons_zero, List.set_cons_succ, updO] at hK ⊢
      simp [Region.binds] at hd
      rw [if_pos (by rfl)]
      simp only [Oper.wpv]
      go_simp
      exact hK _ _ ⟨b0, hb, p0, p1, p2, p3, p4, p5, p6, fun _ => rfl, p8, p8w, p9, p10, p11, p12, p13, c1, c2, c3⟩
    · rintro L T u hd hk hcl ⟨b0, hb, p0, p1, p2, p3, p4, p5, p6, p7, p8, p8w, p9, p10, p11, p12, p13, c1, c2, c3⟩ K hK
      simp only [fr, Act.put, List.setIfInBounds_toArray, List.set_cons_zero, List.set_cons_succ, updO] at hK ⊢
      simp [Region.binds] at hd
      have g7 := p7 (by simp [hd])
      have k9 := hcl 9 _ rfl
      simp [Region.binds] at k9
      have h9 : L 9 = false := by cases h : L 9 with | false => rfl | true => have := k9 h; simp [hk] at this
      rw [if_pos (by rfl)]
      simp only [Oper.wpv]
      go_simp
      refine (numbered_any n _).mono ?_
      rintro e u1 ⟨b1, rfl, hc0, ⟨hl0, hl1⟩, hg⟩
      exact hK _ _ ⟨b1, (Nat.le_trans hb hg.size), p0, p1, p2, p3, p4, p5, p6, p7, fun _ => rfl, fun _ _ => ⟨hc0, Nat.le_trans hb hl0, hl1⟩, p9, p10, p11, p12, p13, fun h0 => (c1 h0).below hg, fun h0 h1 => (c2 h0 h1).below hg, fun h0 => (c3 h0).below hg⟩
    · rintro L T u hd hk hcl ⟨b0, hb, p0, p1, p2, p3, p4, p5, p6, p7, p8, p8w, p9, p10, p11, p12, p13, c1, c2, c3⟩ K hK
      simp only [fr, Act.put, List.setIfInBounds_toArray, List.set_cons_zero, List.set_cons_succ, updO] at hK ⊢
      simp [Region.binds] at hd
      have g6 := p6 (by simp [hd])
      have g8 := p8 (by simp [hd])
      obtain ⟨hc0, hl0, hl1⟩ := p8w (by simp [hd]) hk
      have hC := c1 hk
      have k14 := hcl 14 _ rfl
      simp [Region.binds] at k14
      rw [if_pos (by rfl)]
      simp only [Oper.wpv]
      go_simp
      refine (deleteJob_any 67 #[.pointer (some ⟨b0, 0, none⟩)] (isN n) B v.ja v.jl v.jc v.js _ hC.jobRow (numbered_asksG b0 n _ _ hc0 hl1 (fun e2 => by have := HG.out _ e2.symm; omega))).mono ?_
      rintro e u1 ⟨rfl, own1, gr1⟩
      have hH := hC.held.grow (i := 0) (r := ⟨47, 6, .slice v.ja v.jl v.jc, v.jl, flat JbV.cells v.js⟩) (r' := keptRow v n) rfl gr1 own1 (Or.inl (own_blk _ _ _ _ _))
      exact hK _ _ ⟨b0, (Nat.le_trans hb gr1.size), p0, p1, p2, p3, p4, p5, p6, p7, p8, fun _ h => Bool.noConfusion (show true = false from h), fun _ => rfl, p10, p11, p12, p13, fun h => Bool.noConfusion (show true = false from h), fun _ _ => hH, fun h => by have := k14 h; simp [hk] at this⟩
    · rintro L T u hd hk hcl ⟨b0, hb, p0, p1, p2, p3, p4, p5, p6, p7, p8, p8w, p9, p10, p11, p12, p13, c1, c2, c3⟩ K hK
      simp only [fr, Act.put, List.setIfInBounds_toArray, List.set_cons_zero, List.set_cons_succ, updO] at hK ⊢
      simp [Region.binds] at hd
      have g0 := p0 (by simp [hd])
      rw [if_pos (by rfl)]
      simp only [Oper.wpv]
      go_simp
      exact hK _ _ ⟨b0, hb, p0, p1, p2, p3, p4, p5, p6, p7, p8, p8w, p9, fun _ => rfl, p11, p12, p13, c1, c2, c3⟩
    · rintro L T u hd hk hcl ⟨b0, hb, p0, p1, p2, p3, p4, p5, p6, p7, p8, p8w, p9, p10, p11, p12, p13, c1, c2, c3⟩ K hK
      simp only [fr, Act.put, List.setIfInBounds_toArray, List.set_cons_zero, List.set_cons_succ, updO] at hK ⊢
      simp [Region.binds] at hd
      have g10 := p10 (by simp [hd])
      rw [if_pos (by rfl)]
      simp only [Oper.wpv]
      go_simp
      exact hK _ _ ⟨b0, hb, p0, p1, p2, p3, p4, p5, p6, p7, p8, p8w, p9, p10, fun _ => rfl, p12, p13, c1, c2, c3⟩
    · rintro L T u hd hk hcl ⟨b0, hb, p0, p1, p2, p3, p4, p5, p6, p7, p8, p8w, p9, p10, p11, p12, p13, c1, c2, c3⟩ K hK
      simp only [fr, Act.put, List.setIfInBounds_toArray, List.set_cons_zero, List.set_cons_succ, updO] at hK ⊢
      simp [Region.binds] at hd
      have g11 := p11 (by simp [hd])
      rw [if_pos (by rfl)]
      simp only [Oper.wpv]
      go_simp
      exact hK _ _ ⟨b0, hb, p0, p1, p2, p3, p4, p5, p6, p7, p8, p8w, p9, p10, p11, fun _ => rfl, p13, c1, c2, c3⟩
    · rintro L T u hd hk hcl ⟨b0, hb, p0, p1, p2, p3, p4, p5, p6, p7, p8, p8w, p9, p10, p11, p12, p13, c1, c2, c3⟩ K hK
      simp only [fr, Act.put, List.setIfInBounds_toArray, List.set_cons_zero, List.set_cons_succ, updO] at hK ⊢
      simp [Region.binds] at hd
      have g12 := p12 (by simp [hd])
      rw [if_pos (by rfl)]
      simp only [Oper.wpv]
      go_simp
      exact hK _ _ ⟨b0, hb, p0, p1, p2, p3, p4, p5, p6, p7, p8, p8w, p9, p10, p11, p12, fun _ => rfl, c1, c2, c3⟩
    · rintro L T u hd hk hcl ⟨b0, hb, p0, p1, p2, p3, p4, p5, p6, p7, p8, p8w, p9, p10, p11, p12, p13, c1, c2, c3⟩ K hK
      simp only [fr, Act.put, List.setIfInBounds_toArray, List.set_cons_zero, List.set_cons_succ, updO] at hK ⊢
      simp [Region.binds] at hd
      have g13 := p13 (by simp [hd])
      have g9 := p9 (by simp [hd])
      have h9 : L 9 = true := by simp [hd]
      have hH := c2 h9 hk
      have x6 : u.cell? ⟨q, 6, none⟩ = some (.slice v.ja v.jl v.jc) := (hH.box.c 6 (by decide)).1
      have y6 := (hH.box.c 6 (by decide)).2
      have zx := hH.box.lt
      rw [if_pos (by rfl)]
      simp only [Oper.wpv]
      go_simp
      exact hK _ _ ⟨b0, (by simpa using hb), p0, p1, p2, p3, p4, p5, p6, p7, p8, fun _ h => absurd (show L 9 = false from h) (by simp [h9]), p9, p10, p11, p12, p13, fun h => absurd (show L 9 = false from h) (by simp [h9]), fun _ h => Bool.noConfusion (show true = false from h), fun _ => hH.tell 6 (by decide) _⟩
  · rintro L T u hl ⟨b0, hb, p0, p1, p2, p3, p4, p5, p6, p7, p8, p8w, p9, p10, p11, p12, p13, c1, c2, c3⟩
    simp only [fr, Act.put, List.setIfInBounds_toArray, List.set_cons_zero, List.set_cons_succ]
    have hH := c3 (hl 14 (by decide))
    have hD := Clerk.dropped (n := n) HX.out.jobs HX.out.lens hH
    clear hH p0 p1 p2 p3 p4 p5 p6 p7 p8 p8w p9 p10 p11 p12 p13 c1 c2 c3
    obtain ⟨ix', hD⟩ := hD
    exact bodyPost_end (v := .tuple #[]) (by simp [results, Try.results56, go_sem]) rfl ⟨rfl, ix', hD⟩
end Go.Proofs.Ytfhciplckjkflaa.Co
/- The document's jobAt, intsCopy, TasksCopy, without, for the laws of coord. -/
namespace Go.Proofs.Ytfhciplckjkflaa.Cd
open Go.ChangeShapes Go.WideShapes Go.ChangeAt Go.RowKit
open Go.Proofs.Ytfhciplckjkflaa.St Go.Proofs.Ytfhciplckjkflaa.Co
set_option linter.unusedVariables false


/-- The place of a job; -1: there is none. -/
def jbAt (n : Int) : Nat → List JbV → Int
  | _, [] => -1
  | k, j :: r => if j.n = n then (k : Int) else jbAt n (k + 1) r
theorem jbAt_at {n : Int} {js : List JbV} {k : Nat} (hk : k < js.length) : jbAt n k (js.drop k) = if (js.getD k default).n = n then (k : Int) else jbAt n (k + 1) (js.drop (k + 1)) := by
  rw [List.drop_eq_getElem_cons hk, jbAt]
  have : js.getD k default = js[k] := by simp [List.getD, hk]
  rw [this]
theorem jbAt_no {n : Int} : ∀ (js : List JbV) (k : Nat), jbAt n k js = -1 ∨ ∃ i, i < js.length ∧ jbAt n k js = ((k + i : Nat) : Int) ∧ (js.getD i default).n = n ∧ ∀ q, q < i → (js.getD q default).n ≠ n
  | [], k => Or.inl rfl
  | j :: r, k => by
    rw [jbAt]
    by_cases h : j.n = n
    · rw [if_pos h]
      exact Or.inr ⟨0, by simp, rfl, h, fun q hq => absurd hq (Nat.not_lt_zero q)⟩
    · rw [if_neg h]
      rcases jbAt_no r (k + 1) with h1 | ⟨i, h1, h2, h3, h4⟩
      · exact Or.inl h1
      · refine Or.inr ⟨i + 1, by simp; omega, by rw [h2]; congr 1; omega, by simpa using h3, fun q hq => ?_⟩
        cases q with
        | zero => simpa using h
        | succ q => have := h4 q (by omega); simpa using this
theorem jbAt_none {n : Int} : ∀ (js : List JbV) (k : Nat), (jbAt n k js = -1) = (js.any (isN n) = false)
  | [], k => by simp [jbAt]
  | j :: r, k => by
    rw [jbAt, List.any_cons]
    by_cases h : j.n = n
    · rw [if_pos h]
      simp [isN, h]
    · rw [if_neg h, jbAt_none r (k + 1)]
      simp [isN, h]
set_option maxRecDepth 100000 in
set_option maxHeartbeats 4000000 in
theorem jobAt_any (next : Int) (a : Option Addr) (len cap : Nat) (js : List JbV) (n : Int) (w : World) (h : IsJobRow w a len cap js) :
    Calls Try.prog 28 #[.agg #[.int .i64 next, .slice a len cap], .int .i64 n] w fun e w' => e = .returned (.int .i64 (jbAt n 0 js)) ∧ Below w.heap.size w w' := by
  obtain ⟨R, eR⟩ : ∃ R, R = jbAt n 0 js := ⟨_, rfl⟩
  have HR : Hid (R = jbAt n 0 (js.drop 0)) := eR
  rw [← eR]
  clear eR
  have hmx : len ≤ maxLen := Nat.le_trans h.2.1 h.2.2.1
  unfold maxLen at hmx
  have hjl : js.length = len := h.1
  obtain ⟨W, hW⟩ : ∃ W : World, W = w.alloc (.cells #[.int .i64 next, .slice a len cap] 27) := ⟨_, rfl⟩
  have bW : Below w.heap.size w W := by rw [hW]; exact (Below.refl _ _).alloc (Nat.le_refl _) _
  have bx : BoxN W w.heap.size 2 [.int .i64 next, .slice a len cap] := by rw [hW]; exact boxn_new w #[.int .i64 next, .slice a len cap] 27 2 rfl
  have KV : Hid (∀ U, Below W.heap.size W U → U.cell? ⟨w.heap.size, 1, none⟩ = some (.slice a len cap) ∧ w.heap.size < U.heap.size ∧ IsJobRow U a len cap js ∧ Below w.heap.size w U) := fun U hU => by
    have h1 := bx.below hU bx.lt
    have h9 := bW.trans (hU.mono bW.size)
    exact ⟨(h1.c 1 (by decide)).1, h1.lt, h.below h9, h9⟩
  clear h bx bW
  go_enter Try.func28, Try.ntmps28
  go_upto_region 2 with (fail)
  rw [← hW]
  clear hW
  go_loopw [5] (fun s5 wr => ∃ k : Nat, s5 = .int .i64 (k : Int) ∧ k ≤ len ∧ Hid (R = jbAt n k (js.drop k)) ∧ Below W.heap.size W wr) (fun s5 _ => len - (intOf s5).toNat)
  case atStart => exact ⟨0, rfl, by omega, HR, Below.refl _ _⟩
  case round =>
    clear HR
    obtain ⟨k, rfl, hk, hR, hb⟩ := hrel
    obtain ⟨c1, zc, hrow, hbw⟩ := KV.out wr hb
    by_cases hlt : k < len
    · have hlt' : (k : Int) < (len : Int) := by omega
      obtain ⟨b, off, rfl, zb, hc⟩ := hrow.2.2.2.2 (by omega)
      have h0 := hc k hlt 0 (by decide)
      rw [Nat.add_zero] at h0
      obtain ⟨m, em⟩ : ∃ m, m = (js.getD k default).n := ⟨_, rfl⟩
      have h0' : wr.cell? ⟨b, off + k * 6, none⟩ = some (.int .i64 m) := by rw [h0, em]; rfl
      have HR2 : Hid (R = if m = n then (k : Int) else jbAt n (k + 1) (js.drop (k + 1))) := by show _ = _; rw [hR.out, jbAt_at (by omega), em]
      clear hc h0 em hR hrow
      by_cases hmn : m = n
      · have hE : R = (k : Int) := by rw [HR2.out, if_pos hmn]
        subst hmn
        clear HR2
        go_wp2
        go_ret
        exact ⟨by first | (rw [hE]; done) | (rw [hE]; rfl) | rfl, hbw⟩
      · have HR3 : Hid (R = jbAt n (k + 1) (js.drop (k + 1))) := by show _ = _; rw [HR2.out, if_neg hmn]
        have hk1 : IntKind.i64.wrap ((k : Int) + 1) = (k : Int) + 1 := by rw [IntKind.wrap_i64]; omega
        clear HR2
        go_wp2
        go_roundw
        case rel => exact ⟨k + 1, by go_num, by omega, HR3, hb⟩
        case measure => simp [intOf]; omega
    · obtain rfl : k = len := by omega
      have hnl : ¬ ((k : Int) < (k : Int)) := by omega
      have hE : R = -1 := by rw [hR.out, List.drop_of_length_le (by omega)]; rfl
      clear hR hrow
      go_wp2
      go_ret
      exact ⟨by first | (rw [hE]; done) | (rw [hE]; rfl) | rfl, hbw⟩
theorem in1 (X : World) (n : Int) (q : Nat) (hq : q = X.heap.size) : IsRow 1 inCell (X.alloc (.cells #[.int .i64 n] 3)) (some ⟨q, 0, none⟩) 1 1 [n] := by
  subst hq
  have b := boxn_new X #[.int .i64 n] 3 1 rfl
  refine ⟨rfl, Nat.le_refl _, by unfold maxLen; omega, nofun, fun _ => ⟨_, 0, rfl, b.lt, fun i hi j hj => ?_⟩⟩
  obtain rfl : i = 0 := by omega
  obtain rfl : j = 0 := by omega
  exact (b.c 0 (by decide)).1
set_option maxRecDepth 100000 in
set_option maxHeartbeats 4000000 in
theorem intsCopy_any (a : Option Addr) (n c : Nat) (zs : List Int) (w : World) (h : IsSites w a n c zs) (hn : n * 8 ≤ 140737488351232) :
    Calls Try.prog 13 #[.slice a n c] w fun e w' => ∃ a5 c5, e = .returned (.slice a5 n c5) ∧ w'.ownsRow w.heap.size 3 1 (.slice a5 n c5) n (flat inCell zs) ∧ Below w.heap.size w w' := by
  obtain ⟨iE, EI⟩ := inElem
  have hzl : zs.length = n := h.1
  have HS : Hid (∀ U, Below w.heap.size w U → IsSites U a n c zs) := fun U hU => h.below hU
  clear h
  go_enter Try.func13, Try.ntmps13
  go_upto_region 3 with (fail)
  go_loopw [3, 4] (fun s3 s4 wr => ∃ (a5 : Option Addr) (c5 k : Nat), s3 = .slice a5 k c5 ∧ s4 = .int .i64 (k : Int) ∧ k ≤ n ∧ Hid (wr.ownsRow w.heap.size 3 1 (.slice a5 k c5) k (flat inCell (zs.take k))) ∧ Hid (Below w.heap.size w wr)) (fun _ s4 _ => n - (intOf s4).toNat)
  case atStart => exact ⟨none, 0, 0, rfl, rfl, by omega, ⟨rfl, Or.inl ⟨rfl, rfl⟩⟩, Below.refl _ _⟩
  case round =>
    obtain ⟨a5, c5, k, rfl, rfl, hk, HOw, HB⟩ := hrel
    obtain ⟨wo, ewo⟩ : ∃ X : World, X = wr := ⟨_, rfl⟩
    subst ewo
    by_cases hlt : k < n
    · have hlt' : (k : Int) < (n : Int) := by omega
      obtain ⟨b, off, rfl, zb, hc⟩ := (HS.out wo HB.out).2.2.2.2 (by omega)
      have h0 := hc k hlt 0 (by decide)
      rw [Nat.add_zero, Nat.mul_one] at h0
      obtain ⟨m, em⟩ : ∃ m, m = zs.getD k default := ⟨_, rfl⟩
      have h0' : wo.cell? ⟨b, off + k, none⟩ = some (.int .i64 m) := by rw [h0, em]; rfl
      have htk : zs.take (k + 1) = zs.take k ++ [m] := by
        rw [List.take_succ_eq_append_getElem (by omega), em]
        simp [List.getD, show k < zs.length by omega]
      have hk1 : IntKind.i64.wrap ((k : Int) + 1) = ((k + 1 : Nat) : Int) := by rw [IntKind.wrap_i64]; omega
      have HFn : Hid (∀ (w5 : World), (wo.alloc (.cells #[.int .i64 m] 3)).grownBy w5 (Value.slice a5 k c5).ownBlock → Below w.heap.size w w5) := fun w5 h8 => by
        have b1 : Below w.heap.size w (wo.alloc (.cells #[.int .i64 m] 3)) := HB.out.alloc HB.out.size _
        exact b1.grown h8 b1.size (fun g hg => (HOw.out.lt g hg).1)
      have hz1 : w.heap.size ≤ wo.heap.size := HB.out.size
      have hO1 := HOw.out
      have hl : (zs.take k).length = k := by rw [List.length_take]; omega
      have HTk : Hid (zs.take (k + 1) = zs.take k ++ [m]) := htk
      obtain ⟨us, eus⟩ : ∃ us, us = zs.take k := ⟨_, rfl⟩
      rw [← eus] at hO1 hl HTk
      clear hc h0 em htk HS HOw eus
      go_wp2_with (at_builtin; go_loud (refine St.wpList_append_row EI (by rfl) _ _ (by rfl) w.heap.size (.slice a5 k c5) k us (by rfl) (own_below hO1 ((Below.refl _ _).alloc (Nat.le_refl _) _)) _ 1 1 [m] (by rfl) (in1 wo m _ rfl) (by unfold maxLen; omega) (by omega) (by simp; omega) ?_; intro a6 c6 w5 own5 gr5 at5; have HF5 : Hid (Below w.heap.size w w5) := HFn.out w5 gr5))
      go_roundw
      case rel => exact ⟨a6, c6, k + 1, rfl, by go_num, by omega, by rw [HTk.out]; exact own5, HF5⟩
      case measure => simp [intOf]; omega
    · obtain rfl : k = n := by omega
      have hnl : ¬ ((k : Int) < (k : Int)) := by omega
      have hO1 := HOw.out
      rw [List.take_of_length_le (by omega)] at hO1
      have HO2 : Hid (wo.ownsRow w.heap.size 3 1 (.slice a5 k c5) k (flat inCell zs)) := hO1
      clear HS HOw hO1
      go_wp2
      go_ret
      exact ⟨a5, c5, rfl, HO2.out, HB.out⟩
theorem taskCell1 (X : World) (j : TkV) (q : Nat) (hq : q = X.heap.size) : IsTasks (X.alloc (.cells j.cells.toArray 73)) (some ⟨q, 0, none⟩) 1 1 [j] := by
  subst hq
  have b := boxn_new X j.cells.toArray 73 8 rfl
  refine ⟨rfl, Nat.le_refl _, by unfold maxLen; omega, nofun, fun _ => ⟨_, 0, rfl, b.lt, fun i hi q hq => ?_⟩⟩
  obtain rfl : i = 0 := by omega
  rw [Nat.zero_mul, Nat.zero_add, (b.c q hq).1]
  have hl : q < j.cells.length := hq
  simp [List.getD, List.getElem?_eq_getElem hl]
set_option maxRecDepth 100000 in
set_option maxHeartbeats 4000000 in
theorem tasksCopy_any (a : Option Addr) (n c : Nat) (zs : List TkV) (w : World) (h : IsTasks w a n c zs) (hn : n * 56 ≤ 140737488351232) :
    Calls Try.prog 12 #[.slice a n c] w fun e w' => ∃ a5 c5, e = .returned (.slice a5 n c5) ∧ w'.ownsRow w.heap.size 73 8 (.slice a5 n c5) n (flat TkV.cells zs) ∧ Below w.heap.size w w' := by
  obtain ⟨iE, EI⟩ := tkElem
  have hzl : zs.length = n := h.1
  have HS : Hid (∀ U, Below w.heap.size w U → IsTasks U a n c zs) := fun U hU => h.below hU
  clear h
  go_enter Try.func12, Try.ntmps12
  go_upto_region 3 with (fail)
  go_loopw [3, 4] (fun s3 s4 wr => ∃ (a5 : Option Addr) (c5 k : Nat), s3 = .slice a5 k c5 ∧ s4 = .int .i64 (k : Int) ∧ k ≤ n ∧ Hid (wr.ownsRow w.heap.size 73 8 (.slice a5 k c5) k (flat TkV.cells (zs.take k))) ∧ Hid (Below w.heap.size w wr)) (fun _ s4 _ => n - (intOf s4).toNat)
  case atStart => exact ⟨none, 0, 0, rfl, rfl, by omega, ⟨rfl, Or.inl ⟨rfl, rfl⟩⟩, Below.refl _ _⟩
  case round =>
    obtain ⟨a5, c5, k, rfl, rfl, hk, HOw, HB⟩ := hrel
    obtain ⟨wo, ewo⟩ : ∃ X : World, X = wr := ⟨_, rfl⟩
    subst ewo
    by_cases hlt : k < n
    · have hlt' : (k : Int) < (n : Int) := by omega
      obtain ⟨b, off, rfl, zb, hc⟩ := (HS.out wo HB.out).2.2.2.2 (by omega)
      have hc' := hc k hlt
      obtain ⟨m, em⟩ : ∃ m, m = zs.getD k default := ⟨_, rfl⟩
      rw [← em] at hc'
      obtain ⟨twr, tlb, tky, tvl, tvr, tak, tdn, tsr⟩ := m
      have h0 := (hc' 0 (by decide)).trans (show _ = some (Value.bool twr) from rfl)
      rw [Nat.add_zero] at h0
      have h1 := (hc' 1 (by decide)).trans (show _ = some (Value.int .i64 tlb) from rfl)
      have h2 := (hc' 2 (by decide)).trans (show _ = some (Value.int .i64 tky) from rfl)
      have h3 := (hc' 3 (by decide)).trans (show _ = some (Value.int .i64 tvl) from rfl)
      have h4 := (hc' 4 (by decide)).trans (show _ = some (Value.int .i64 tvr) from rfl)
      have h5 := (hc' 5 (by decide)).trans (show _ = some (Value.int .i64 tak) from rfl)
      have h6 := (hc' 6 (by decide)).trans (show _ = some (Value.bool tdn) from rfl)
      have h7 := (hc' 7 (by decide)).trans (show _ = some (Value.bool tsr) from rfl)
      have htk : zs.take (k + 1) = zs.take k ++ [⟨twr, tlb, tky, tvl, tvr, tak, tdn, tsr⟩] := by
        have e9 : zs.getD k default = zs[k]'(by omega) := by simp [List.getD, show k < zs.length by omega]
        rw [List.take_succ_eq_append_getElem (by omega), ← e9, ← em]
      have hk1 : IntKind.i64.wrap ((k : Int) + 1) = ((k + 1 : Nat) : Int) := by rw [IntKind.wrap_i64]; omega
      have HFn : Hid (∀ (w5 : World), (wo.alloc (.cells #[.bool twr, .int .i64 tlb, .int .i64 tky, .int .i64 tvl, .int .i64 tvr, .int .i64 tak, .bool tdn, .bool tsr] 73)).grownBy w5 (Value.slice a5 k c5).ownBlock → Below w.heap.size w w5) := fun w5 h8 => by
        have b1 : Below w.heap.size w (wo.alloc (.cells #[.bool twr, .int .i64 tlb, .int .i64 tky, .int .i64 tvl, .int .i64 tvr, .int .i64 tak, .bool tdn, .bool tsr] 73)) := HB.out.alloc HB.out.size _
        exact b1.grown h8 b1.size (fun g hg => (HOw.out.lt g hg).1)
      have hz1 : w.heap.size ≤ wo.heap.size := HB.out.size
      have hO1 := HOw.out
      have hl : (zs.take k).length = k := by rw [List.length_take]; omega
      have HTk : Hid (zs.take (k + 1) = zs.take k ++ [⟨twr, tlb, tky, tvl, tvr, tak, tdn, tsr⟩]) := htk
      obtain ⟨us, eus⟩ : ∃ us, us = zs.take k := ⟨_, rfl⟩
      rw [← eus] at hO1 hl HTk
      clear hc hc' em htk HS HOw eus
      go_wp2_with (at_builtin; go_loud (refine St.wpList_append_row EI (by rfl) _ _ (by rfl) w.heap.size (.slice a5 k c5) k us (by rfl) (own_below hO1 ((Below.refl _ _).alloc (Nat.le_refl _) _)) _ 1 1 [(⟨twr, tlb, tky, tvl, tvr, tak, tdn, tsr⟩ : TkV)] (by rfl) (taskCell1 wo ⟨twr, tlb, tky, tvl, tvr, tak, tdn, tsr⟩ _ rfl) (by unfold maxLen; omega) (by omega) (by simp; omega) ?_; intro a6 c6 w5 own5 gr5 at5; have HF5 : Hid (Below w.heap.size w w5) := HFn.out w5 gr5))
      go_roundw
      case rel => exact ⟨a6, c6, k + 1, rfl, by go_num, by omega, by rw [HTk.out]; exact own5, HF5⟩
      case measure => simp [intOf]; omega
    · obtain rfl : k = n := by omega
      have hnl : ¬ ((k : Int) < (k : Int)) := by omega
      have hO1 := HOw.out
      rw [List.take_of_length_le (by omega)] at hO1
      have HO2 : Hid (wo.ownsRow w.heap.size 73 8 (.slice a5 k c5) k (flat TkV.cells zs)) := hO1
      clear HS HOw hO1
      go_wp2
      go_ret
      exact ⟨a5, c5, rfl, HO2.out, HB.out⟩
theorem jobCell1 (X : World) (j : JbV) (q : Nat) (hq : q = X.heap.size) : IsJobRow (X.alloc (.cells j.cells.toArray 47)) (some ⟨q, 0, none⟩) 1 1 [j] := by
  subst hq
  have b := boxn_new X j.cells.toArray 47 6 rfl
  refine ⟨rfl, Nat.le_refl _, by unfold maxLen; omega, nofun, fun _ => ⟨_, 0, rfl, b.lt, fun i hi q hq => ?_⟩⟩
  obtain rfl : i = 0 := by omega
  rw [Nat.zero_mul, Nat.zero_add, (b.c q hq).1]
  have hl : q < j.cells.length := hq
  simp [List.getD, List.getElem?_eq_getElem hl]
/-- What is left without one of them, so far. -/
def woAt (js : List JbV) (i k : Nat) : List JbV := if k ≤ i then js.take k else js.take i ++ (js.take k).drop (i + 1)
theorem woAt_same (js : List JbV) (i : Nat) (h : i < js.length) : woAt js i (i + 1) = woAt js i i := by
  unfold woAt
  rw [if_neg (by omega), if_pos (Nat.le_refl _), List.drop_of_length_le (by rw [List.length_take]; omega), List.append_nil]
theorem woAt_more (js : List JbV) (i k : Nat) (hk : k < js.length) (hne : k ≠ i) : woAt js i (k + 1) = woAt js i k ++ [js.getD k default] := by
  have hg : js.getD k default = js[k] := by simp [List.getD, hk]
  unfold woAt
  by_cases h : k + 1 ≤ i
  · rw [if_pos h, if_pos (by omega), List.take_succ_eq_append_getElem hk, hg]
  · rw [if_neg h, if_neg (by omega), List.take_succ_eq_append_getElem hk, List.drop_append_of_le_length (by rw [List.length_take]; omega), List.append_assoc, hg]
theorem woAt_len (js : List JbV) (i k : Nat) : (woAt js i k).length ≤ k := by
  unfold woAt
  split
  · rw [List.length_take]; omega
  · rw [List.length_append, List.length_drop, List.length_take, List.length_take]; omega
set_option maxRecDepth 100000 in
set_option maxHeartbeats 4000000 in
theorem without_any (a : Option Addr) (n c : Nat) (js : List JbV) (i : Nat) (w : World) (h : IsJobRow w a n c js) (hn : n ≤ 1000) (hi : i < n) :
    Calls Try.prog 61 #[.slice a n c, .int .i64 (i : Int)] w fun e w' => ∃ a5 c5 m, e = .returned (.slice a5 m c5) ∧ m = (woAt js i n).length ∧ w'.ownsRow w.heap.size 47 6 (.slice a5 m c5) m (flat JbV.cells (woAt js i n)) ∧ Below w.heap.size w w' := by
  obtain ⟨iE, EJ⟩ := jbElem
  have hjl : js.length = n := h.1
  have HS : Hid (∀ U, Below w.heap.size w U → IsJobRow U a n c js) := fun U hU => h.below hU
  clear h
  go_enter Try.func61, Try.ntmps61
  go_upto_region 3 with (fail)
  go_loopw [5, 6] (fun s5 s6 wr => ∃ (a5 : Option Addr) (c5 k m : Nat), s5 = .slice a5 m c5 ∧ s6 = .int .i64 (k : Int) ∧ k ≤ n ∧ m ≤ k ∧ Hid (m = (woAt js i k).length) ∧ Hid (wr.ownsRow w.heap.size 47 6 (.slice a5 m c5) m (flat JbV.cells (woAt js i k))) ∧ Hid (Below w.heap.size w wr)) (fun _ s6 _ => n - (intOf s6).toNat)
  case atStart => exact ⟨none, 0, 0, 0, rfl, rfl, by omega, Nat.le_refl _, (show 0 = (woAt js i 0).length by simp [woAt]), (show w.ownsRow w.heap.size 47 6 (.slice none 0 0) 0 (flat JbV.cells (woAt js i 0)) by rw [show woAt js i 0 = [] by simp [woAt]]; exact World.ownsRow_nil _ _ _ _), Below.refl _ _⟩
  case round =>
    obtain ⟨a5, c5, k, m, rfl, rfl, hk, hmk, HM, HOw, HB⟩ := hrel
    obtain ⟨wo, ewo⟩ : ∃ X : World, X = wr := ⟨_, rfl⟩
    subst ewo
    by_cases hlt : k < n
    · have hlt' : (k : Int) < (n : Int) := by omega
      have hk1 : IntKind.i64.wrap ((k : Int) + 1) = ((k + 1 : Nat) : Int) := by rw [IntKind.wrap_i64]; omega
      by_cases hki : k = i
      · subst hki
        have e := woAt_same js k (by omega)
        have HM2 : Hid (m = (woAt js k (k + 1)).length) := by show _ = _; rw [e]; exact HM.out
        have HO2 : Hid (wo.ownsRow w.heap.size 47 6 (.slice a5 m c5) m (flat JbV.cells (woAt js k (k + 1)))) := by rw [e]; exact HOw.out
        clear e HM HOw HS
        go_wp2
        go_roundw
        case rel => exact ⟨a5, c5, k + 1, m, rfl, by go_num, by omega, by omega, HM2, HO2, HB⟩
        case measure => simp [intOf]; omega
      · have hki' : ¬ (k : Int) = (i : Int) := by omega
        have hki'' : ((k : Int) == (i : Int)) = false := beq_eq_false_iff_ne.2 hki'
        obtain ⟨b, off, rfl, zb, hc⟩ := (HS.out wo HB.out).2.2.2.2 (by omega)
        have e := woAt_more js i k (by omega) hki
        obtain ⟨j, ej⟩ : ∃ j, j = js.getD k default := ⟨_, rfl⟩
        rw [← ej] at e
        have hc' := hc k hlt
        rw [← ej] at hc'
        obtain ⟨jn, jst, jta, jtl, jtc, jaa, jal, jac, jas, jag, jts, jak⟩ := j
        have h0 := (hc' 0 (by decide)).trans (show _ = some (Value.int .i64 jn) from rfl)
        rw [Nat.add_zero] at h0
        have h1 := (hc' 1 (by decide)).trans (show _ = some (Value.int .i64 jst) from rfl)
        have h2 := (hc' 2 (by decide)).trans (show _ = some (Value.slice jta jtl jtc) from rfl)
        have h3 := (hc' 3 (by decide)).trans (show _ = some (Value.slice jaa jal jac) from rfl)
        have h4 := (hc' 4 (by decide)).trans (show _ = some (Value.int .i64 jas) from rfl)
        have h5 := (hc' 5 (by decide)).trans (show _ = some (Value.int .i64 jag) from rfl)
        have HM2 : Hid (m + 1 = (woAt js i (k + 1)).length) := by show _ = _; rw [e, List.length_append, ← HM.out]; rfl
        have HE : Hid (woAt js i (k + 1) = woAt js i k ++ [⟨jn, jst, jta, jtl, jtc, jaa, jal, jac, jas, jag, jts, jak⟩]) := e
        have hul : (woAt js i k).length = m := HM.out.symm
        obtain ⟨us, eus⟩ : ∃ us, us = woAt js i k := ⟨_, rfl⟩
        have hO1 := HOw.out
        rw [← eus] at hO1 HE hul
        have HFn : Hid (∀ (w5 : World), (wo.alloc (.cells #[.int .i64 jn, .int .i64 jst, .slice jta jtl jtc, .slice jaa jal jac, .int .i64 jas, .int .i64 jag] 47)).grownBy w5 (Value.slice a5 m c5).ownBlock → Below w.heap.size w w5) := fun w5 h8 => by
          have b1 : Below w.heap.size w (wo.alloc (.cells #[.int .i64 jn, .int .i64 jst, .slice jta jtl jtc, .slice jaa jal jac, .int .i64 jas, .int .i64 jag] 47)) := HB.out.alloc HB.out.size _
          exact b1.grown h8 b1.size (fun g hg => (HOw.out.lt g hg).1)
        have hz1 : w.heap.size ≤ wo.heap.size := HB.out.size
        clear hc hc' ej e HM HOw HS eus
        go_wp2_with (at_builtin; go_loud (refine St.wpList_append_row EJ (by rfl) _ _ (by rfl) w.heap.size (.slice a5 m c5) m us (by rfl) (own_below hO1 ((Below.refl _ _).alloc (Nat.le_refl _) _)) _ 1 1 [(⟨jn, jst, jta, jtl, jtc, jaa, jal, jac, jas, jag, jts, jak⟩ : JbV)] (by rfl) (jobCell1 wo ⟨jn, jst, jta, jtl, jtc, jaa, jal, jac, jas, jag, jts, jak⟩ _ rfl) (by unfold maxLen; omega) (by omega) (by simp; omega) ?_; intro a6 c6 w5 own5 gr5 at5; have HF5 : Hid (Below w.heap.size w w5) := HFn.out w5 gr5))
        go_roundw
        case rel => exact ⟨a6, c6, k + 1, m + 1, rfl, by go_num, by omega, by omega, HM2, by rw [HE.out]; exact own5, HF5⟩
        case measure => simp [intOf]; omega
    · obtain rfl : k = n := by omega
      have hnl : ¬ ((k : Int) < (k : Int)) := by omega
      clear HS
      go_wp2
      go_ret
      exact ⟨a5, c5, m, rfl, HM.out, HOw.out, HB.out⟩
/-- Without the first of them, where there is one of each number alone. -/
theorem wo_keep {n : Int} : ∀ (js : List JbV) (i : Nat), i < js.length → (js.getD i default).n = n → js.Pairwise (fun a b => a.n ≠ b.n) → js.take i ++ js.drop (i + 1) = Co.keep (isN n) js
  | [], i, h, _, _ => by simp at h
  | j :: r, 0, _, h, hp => by
    have h0 : j.n = n := by simpa using h
    have hr : Co.keep (isN n) r = r := by
      unfold Co.keep
      rw [List.filter_eq_self]
      intro x hx
      have := (List.pairwise_cons.1 hp).1 x hx
      simp [isN]
      intro e
      exact this (by rw [h0, e])
    rw [show Co.keep (isN n) (j :: r) = Co.keep (isN n) r by simp [Co.keep, isN, h0], hr]
    rfl
  | j :: r, i + 1, hi, h, hp => by
    have hi2 : i < r.length := by simpa using hi
    have h2 : (r.getD i default).n = n := by simpa using h
    have h0 : j.n ≠ n := fun e => by
      have hm : r.getD i default ∈ r := by simp [List.getD, hi2]
      have := (List.pairwise_cons.1 hp).1 _ hm
      exact this (by rw [e, h2])
    have ih := wo_keep r i hi2 h2 (List.pairwise_cons.1 hp).2
    rw [show Co.keep (isN n) (j :: r) = j :: Co.keep (isN n) r by simp [Co.keep, isN, h0], ← ih]
    rfl
theorem woAt_all (js : List JbV) (i : Nat) (h : i < js.length) : woAt js i js.length = js.take i ++ js.drop (i + 1) := by
  unfold woAt
  rw [if_neg (by omega), List.take_of_length_le (Nat.le_refl _)]
end Go.Proofs.Ytfhciplckjkflaa.Cd
