/- Texts of this claim, one behind the other. -/
import Derived.Test.YtfhciplckjkflaaM26CoordTicks
import Derived.OwnWalk
import Derived.Test.YtfhciplckjkflaaM25CoordTicks
/- The document's ended: who has a hand in a job lets it go, and it is left out. -/
namespace Go.Proofs.Ytfhciplckjkflaa.Cd
open Go.ChangeShapes Go.WideShapes Go.ChangeAt Go.RowKit
open Go.Proofs.Ytfhciplckjkflaa.St (BoxN boxn_new own_below grown_setCell IsRow Elem flat flat_append own_isRow own_there)
open Go.Proofs.Ytfhciplckjkflaa.Co
set_option linter.unusedVariables false

theorem ownPick {X : World} {B : Nat} {rows rows2 : List Rw} (h : Own X B rows) (f : Nat → Nat) (hf : ∀ i j, i < rows2.length → j < rows2.length → f i = f j → i = j) (hg : ∀ i r, rows2[i]? = some r → rows[f i]? = some r) : Own X B rows2 :=
  ⟨fun i r e => h.own (f i) r (hg i r e), fun i j r s e e2 hne => h.ap (f i) (f j) r s (hg i r e) (hg j s e2) (fun e3 => hne (hf i j (List.getElem?_eq_some_iff.1 e).1 (List.getElem?_eq_some_iff.1 e2).1 e3))⟩
/-- A row that a call made stands in the place of another. -/
theorem heldSwap {w X : World} {B q n : Nat} {vs : List Value} {rows : List Rw} {r : Rw} (h : Held w X B q n vs (rows ++ [r])) {i : Nat} (hi : i < rows.length) : Held w X B q n vs (rows.set i r) := by
  have hg : ∀ (j : Nat) (s : Rw), (rows.set i r)[j]? = some s → (rows ++ [r])[if j = i then rows.length else j]? = some s := fun j s e => by
    have hj := (List.getElem?_eq_some_iff.1 e).1
    rw [List.length_set] at hj
    by_cases hji : j = i
    · subst hji
      rw [if_pos rfl, List.getElem?_append_right (Nat.le_refl _), Nat.sub_self]
      rw [List.getElem?_set_self hi] at e
      simpa using e
    · rw [if_neg hji, List.getElem?_append_left hj]
      rwa [List.getElem?_set_ne (fun e3 => hji e3.symm)] at e
  refine ⟨h.box, ownPick h.own (fun j => if j = i then rows.length else j) (fun x y hx hy e => ?_) hg, fun j s e => h.apart _ s (hg j s e), h.le, h.bel⟩
  rw [List.length_set] at hx hy
  split at e <;> split at e <;> omega
/-- One message more stands in memory; the box isn't told yet. -/
structure TApp (w u : World) (B q : Nat) (V : CkV) (ix : List (Nat × Nat)) (M : List Rw) (a5 : Option Addr) (c5 : Nat) (m : MV) : Prop where
  held : Held w u B q 7 (tbox V) ((V.rows ++ M).set 1 ⟨75, 12, .slice a5 (V.ml + 1) c5, V.ml + 1, flat mcells (V.ms ++ [m])⟩)
  jobs : JobsIn V.js ix M
  lens : V.js.length = V.jl ∧ V.ms.length = V.ml ∧ V.rs.length = V.rl ∧ V.ps.length = V.pl
theorem TApp.below {w u u' : World} {B q : Nat} {V : CkV} {ix : List (Nat × Nat)} {M : List Rw} {a5 : Option Addr} {c5 : Nat} {m : MV} (h : TApp w u B q V ix M a5 c5 m) (hb : Below u.heap.size u u') : TApp w u' B q V ix M a5 c5 m := ⟨h.held.below hb, h.jobs, h.lens⟩
theorem TCl.app {w X X' : World} {B q : Nat} {v : CkV} {ix : List (Nat × Nat)} {more : List Rw} (h : TCl w X B q v ix more) {a5 : Option Addr} {c5 : Nat} {r : MV} (hg : X.grownBy X' (Value.slice v.ma v.ml v.mc).ownBlock) (ho : X'.ownsRow B 75 12 (.slice a5 (v.ml + 1) c5) (v.ml + 1) (flat mcells (v.ms ++ [r]))) (hat : (Value.slice a5 (v.ml + 1) c5).ownBlock = (Value.slice v.ma v.ml v.mc).ownBlock ∨ (Value.slice a5 (v.ml + 1) c5).ownBlock = some X.heap.size) : TApp w X' B q v ix more a5 c5 r :=
  ⟨h.held.grow (i := 1) (r := ⟨75, 12, .slice v.ma v.ml v.mc, v.ml, flat mcells v.ms⟩) (r' := ⟨75, 12, .slice a5 (v.ml + 1) c5, v.ml + 1, flat mcells (v.ms ++ [r])⟩) rfl hg ho hat, h.jobs, h.lens⟩
theorem TApp.tell {w u : World} {B q : Nat} {V : CkV} {ix : List (Nat × Nat)} {M : List Rw} {a5 : Option Addr} {c5 : Nat} {m : MV} (h : TApp w u B q V ix M a5 c5 m) : TCl w (u.setCell ⟨q, 2, none⟩ (.slice a5 (V.ml + 1) c5)) B q { V with ma := a5, ml := V.ml + 1, mc := c5, ms := V.ms ++ [m] } ix M :=
  ⟨h.held.tell 2 (by decide) (.slice a5 (V.ml + 1) c5), h.jobs, h.lens.1, by simp [h.lens.2.1], h.lens.2.2.1, h.lens.2.2.2⟩
theorem TApp.cell {w u : World} {B q : Nat} {V : CkV} {ix : List (Nat × Nat)} {M : List Rw} {a5 : Option Addr} {c5 : Nat} {m : MV} (h : TApp w u B q V ix M a5 c5 m) : u.cell? ⟨q, 2, none⟩ = some (.slice V.ma V.ml V.mc) ∧ u.frozen? ⟨q, 2, none⟩ = false ∧ q < u.heap.size := ⟨(h.held.box.c 2 (by decide)).1, (h.held.box.c 2 (by decide)).2, h.held.box.lt⟩
/-- The jobs' row is another one. -/
theorem TCl.jobsNew {w X X' : World} {B q : Nat} {v : CkV} {ix : List (Nat × Nat)} {more : List Rw} (h : TCl w X B q v ix more) (hb : Below X.heap.size X X') {a5 : Option Addr} {c5 m : Nat} {js' : List JbV} {ix' : List (Nat × Nat)} (ho : X'.ownsRow X.heap.size 47 6 (.slice a5 m c5) m (flat JbV.cells js')) (hm : js'.length = m) (hj : JobsIn js' ix' more) : TCl w (X'.setCell ⟨q, 1, none⟩ (.slice a5 m c5)) B q { v with ja := a5, jl := m, jc := c5, js := js' } ix' more := by
  have h1 := h.held.add hb (r := ⟨47, 6, .slice a5 m c5, m, flat JbV.cells js'⟩) ho
  have h2 := heldSwap h1 (i := 0) (by simp [CkV.rows])
  exact ⟨h2.tell 1 (by decide) (.slice a5 m c5), hj, hm, h.lens.2⟩
def EndedIs (w X' : World) (B q : Nat) (v : CkV) (n : Int) (zs : List Int) (e : Ending) : Prop := e = .returned (.tuple #[]) ∧ ∃ (ma : Option Addr) (mc : Nat) (ja : Option Addr) (jc : Nat) (ix : List (Nat × Nat)) (more : List Rw), TCl w X' B q { toldV v ma mc n false zs with ja := ja, jl := (kept n v.js).length, jc := jc, js := kept n v.js } ix more
set_option maxRecDepth 100000 in
set_option maxHeartbeats 8000000 in
theorem ended_any {w : World} {B q : Nat} {v : CkV} {ix : List (Nat × Nat)} {more : List Rw} (X : World) (h : TCl w X B q v ix more) (s p : Int) (a : Option Addr) (len cap : Nat) (ls : List (Int × Int)) (l : Int) (hc : cfgFault s ls p = 0) (hs1 : 1 ≤ s) (hs4 : s ≤ 4) {i : Nat} (hi : i < v.jl) (hj6 : v.jl ≤ 1000) (hk7 : ∀ t ∈ (v.js.getD i default).tasks, 0 ≤ t.key ∧ t.key ≤ 7) (hpw : v.js.Pairwise (fun x y => x.n ≠ y.n)) (hn : (v.ml + 1048577) * 96 ≤ 140737488355328) :
    Calls Try.prog 31 #[.agg #[.int .i64 s, .slice a len cap, .int .i64 p], .int .i64 l, .int .i64 v.me, .pointer (some ⟨q, 0, none⟩), .int .i64 (i : Int)] X fun e X' => EndedIs w X' B q v (v.js.getD i default).n (handsOf s ls p l (v.js.getD i default).tasks) e := by
  obtain ⟨iM, EM⟩ := msElem
  obtain ⟨g, eg, -, zg, -, hcj, -⟩ := h.jobAt hi
  have hTk := h.isTasks hi
  have hjc : v.jl ≤ v.jc := ((own_isRow jb_len h.jobRow h.lens.1).1).2.1
  have hil : i < v.js.length := by rw [h.lens.1]; exact hi
  have HWo : Hid (woAt v.js i v.js.length = kept (v.js.getD i default).n v.js) := by show _ = _; rw [woAt_all v.js i hil]; exact wo_keep v.js i hil rfl hpw
  obtain ⟨ix2, hJn⟩ := h.jobs.keep (isN (v.js.getD i default).n)
  have HJn : Hid (∀ r1 r2 r3, JobsIn (kept (v.js.getD i default).n v.js) ix2 (more ++ [r1, r2, r3])) := fun r1 r2 r3 => by
    have h9 := ((hJn.more r1).more r2).more r3
    simp only [List.append_assoc, List.cons_append, List.nil_append] at h9
    exact h9
  clear hJn hpw
  have HK7 : Hid (∀ t ∈ (v.js.getD i default).tasks, 0 ≤ t.key ∧ t.key ≤ 7) := hk7
  obtain ⟨j, ej⟩ : ∃ j, j = v.js.getD i default := ⟨_, rfl⟩
  rw [← ej] at hcj hTk HWo HJn HK7 ⊢
  clear ej hk7
  obtain ⟨jn, st, ta, tl, tc, aa, al, ac, asks, age, tasks, asked⟩ := j
  have a0 := hcj 0 (by decide)
  have a1 := hcj 1 (by decide)
  have a2 := hcj 2 (by decide)
  have a3 := hcj 3 (by decide)
  have a4 := hcj 4 (by decide)
  have a5 := hcj 5 (by decide)
  simp only [JbV.cells, List.getElem?_cons_zero, List.getElem?_cons_succ, Nat.add_zero] at a0 a1 a2 a3 a4 a5
  simp only [] at hTk HWo HJn HK7 ⊢
  clear hcj
  have hq1 : X.cell? ⟨q, 1, none⟩ = some (.slice v.ja v.jl v.jc) := (h.held.box.c 1 (by decide)).1
  rw [eg] at hq1
  have zq := h.held.box.lt
  obtain ⟨W, hW⟩ : ∃ W : World, W = (X.alloc (.cells #[.int .i64 s, .slice a len cap, .int .i64 p] 24)).alloc (.cells #[.int .i64 jn, .int .i64 st, .slice ta tl tc, .slice aa al ac, .int .i64 asks, .int .i64 age] 47) := ⟨_, rfl⟩
  have b1 : Below X.heap.size X (X.alloc (.cells #[.int .i64 s, .slice a len cap, .int .i64 p] 24)) := (Below.refl _ _).alloc (Nat.le_refl _) _
  have bW : Below X.heap.size X W := by rw [hW]; exact b1.alloc (by simp) _
  have hCW : TCl w W B q v ix ((more ++ [(⟨24, 3, .slice (some ⟨X.heap.size, 0, none⟩) 1 1, 1, [.int .i64 s, .slice a len cap, .int .i64 p]⟩ : Rw)]) ++ [(⟨47, 6, .slice (some ⟨X.heap.size + 1, 0, none⟩) 1 1, 1, [.int .i64 jn, .int .i64 st, .slice ta tl tc, .slice aa al ac, .int .i64 asks, .int .i64 age]⟩ : Rw)]) := by
    have h1 := h.add b1 (r := (⟨24, 3, .slice (some ⟨X.heap.size, 0, none⟩) 1 1, 1, [.int .i64 s, .slice a len cap, .int .i64 p]⟩ : Rw)) (box_row X _ _ 3 rfl)
    have h2 := h1.add (X' := W) (r := (⟨47, 6, .slice (some ⟨X.heap.size + 1, 0, none⟩) 1 1, 1, [.int .i64 jn, .int .i64 st, .slice ta tl tc, .slice aa al ac, .int .i64 asks, .int .i64 age]⟩ : Rw)) (by rw [hW]; exact (Below.refl _ _).alloc (Nat.le_refl _) _) (by
      rw [hW]
      have h9 := box_row (X.alloc (.cells #[.int .i64 s, .slice a len cap, .int .i64 p] 24)) #[.int .i64 jn, .int .i64 st, .slice ta tl tc, .slice aa al ac, .int .i64 asks, .int .i64 age] 47 6 rfl
      rw [show (X.alloc (.cells #[.int .i64 s, .slice a len cap, .int .i64 p] 24)).heap.size = X.heap.size + 1 by simp] at h9 ⊢
      exact h9)
    exact h2
  have HH : Hid (Calls Try.prog 60 #[.agg #[.int .i64 s, .slice a len cap, .int .i64 p], .int .i64 l, .agg #[.int .i64 jn, .int .i64 st, .slice ta tl tc, .slice aa al ac, .int .i64 asks, .int .i64 age]] W fun e w' => HandIs W w' (handsOf s ls p l tasks) e) := handsRef_any s p a len cap ls l ⟨jn, st, ta, tl, tc, aa, al, ac, asks, age, tasks, asked⟩ W hc hs1 hs4 (hTk.below bW) HK7.out
  have HL : Hid ((handsOf s ls p l tasks).length ≤ 1048576) := by
    have := handsTo_len s ls p l tasks s.toNat
    show _ ≤ _
    unfold handsOf
    omega
  obtain ⟨R, eR⟩ : ∃ R, R = handsOf s ls p l tasks := ⟨_, rfl⟩
  rw [← eR] at HH HL ⊢
  have Hn : Hid ((v.ml + 1048577) * 96 ≤ 140737488355328) := hn
  clear eR h hn hc hTk b1 bW HK7
  go_enter Try.func31, Try.ntmps31
  go_upto_region 2 with (fail)
  rw [← hW]
  clear hW a0 a1 a2 a3 a4 a5 zg hq1 zq eg
  have KW : Hid (∀ (U : World) (u : CkV), TCl w U B q u ix ((more ++ [(⟨24, 3, .slice (some ⟨X.heap.size, 0, none⟩) 1 1, 1, [.int .i64 s, .slice a len cap, .int .i64 p]⟩ : Rw)]) ++ [(⟨47, 6, .slice (some ⟨X.heap.size + 1, 0, none⟩) 1 1, 1, [.int .i64 jn, .int .i64 st, .slice ta tl tc, .slice aa al ac, .int .i64 asks, .int .i64 age]⟩ : Rw)]) → (U.cell? ⟨X.heap.size, 0, none⟩ = some (.int .i64 s) ∧ U.cell? ⟨X.heap.size, 1, none⟩ = some (.slice a len cap) ∧ U.cell? ⟨X.heap.size, 2, none⟩ = some (.int .i64 p) ∧ X.heap.size < U.heap.size) ∧ (U.cell? ⟨X.heap.size + 1, 0, none⟩ = some (.int .i64 jn) ∧ U.cell? ⟨X.heap.size + 1, 1, none⟩ = some (.int .i64 st) ∧ U.cell? ⟨X.heap.size + 1, 2, none⟩ = some (.slice ta tl tc) ∧ U.cell? ⟨X.heap.size + 1, 3, none⟩ = some (.slice aa al ac) ∧ U.cell? ⟨X.heap.size + 1, 4, none⟩ = some (.int .i64 asks) ∧ U.cell? ⟨X.heap.size + 1, 5, none⟩ = some (.int .i64 age) ∧ X.heap.size + 1 < U.heap.size)) := fun U u hU => by
    have e1 : ((more ++ [(⟨24, 3, .slice (some ⟨X.heap.size, 0, none⟩) 1 1, 1, [.int .i64 s, .slice a len cap, .int .i64 p]⟩ : Rw)]) ++ [(⟨47, 6, .slice (some ⟨X.heap.size + 1, 0, none⟩) 1 1, 1, [.int .i64 jn, .int .i64 st, .slice ta tl tc, .slice aa al ac, .int .i64 asks, .int .i64 age]⟩ : Rw)])[more.length]? = some (⟨24, 3, .slice (some ⟨X.heap.size, 0, none⟩) 1 1, 1, [.int .i64 s, .slice a len cap, .int .i64 p]⟩ : Rw) := by simp
    have e2 : ((more ++ [(⟨24, 3, .slice (some ⟨X.heap.size, 0, none⟩) 1 1, 1, [.int .i64 s, .slice a len cap, .int .i64 p]⟩ : Rw)]) ++ [(⟨47, 6, .slice (some ⟨X.heap.size + 1, 0, none⟩) 1 1, 1, [.int .i64 jn, .int .i64 st, .slice ta tl tc, .slice aa al ac, .int .i64 asks, .int .i64 age]⟩ : Rw)])[more.length + 1]? = some (⟨47, 6, .slice (some ⟨X.heap.size + 1, 0, none⟩) 1 1, 1, [.int .i64 jn, .int .i64 st, .slice ta tl tc, .slice aa al ac, .int .i64 asks, .int .i64 age]⟩ : Rw) := by simp
    have o1 := hU.held.own.own _ _ (more_get e1)
    have o2 := hU.held.own.own _ _ (more_get e2)
    refine ⟨⟨?_, ?_, ?_, (own_at o1 (j := 0) (by show 0 < 1 * 3; decide)).2⟩, ?_, ?_, ?_, ?_, ?_, ?_, (own_at o2 (j := 0) (by show 0 < 1 * 6; decide)).2⟩
    · simpa using (own_at o1 (j := 0) (by show 0 < 1 * 3; decide)).1
    · simpa using (own_at o1 (j := 1) (by show 1 < 1 * 3; decide)).1
    · simpa using (own_at o1 (j := 2) (by show 2 < 1 * 3; decide)).1
    · simpa using (own_at o2 (j := 0) (by show 0 < 1 * 6; decide)).1
    · simpa using (own_at o2 (j := 1) (by show 1 < 1 * 6; decide)).1
    · simpa using (own_at o2 (j := 2) (by show 2 < 1 * 6; decide)).1
    · simpa using (own_at o2 (j := 3) (by show 3 < 1 * 6; decide)).1
    · simpa using (own_at o2 (j := 4) (by show 4 < 1 * 6; decide)).1
    · simpa using (own_at o2 (j := 5) (by show 5 < 1 * 6; decide)).1
  obtain ⟨⟨c0, c1, c2, zc⟩, ⟨d0, d1, d2, d3, d4, d5, zd⟩⟩ := KW.out W v hCW
  go_upto_region 3 with (go_at_call 60; refine HH.out.mono ?_; rintro e w1 ⟨ha, hc, rfl, hown, hb1⟩)
  clear c0 c1 c2 zc d0 d1 d2 d3 d4 d5 zd KW HH
  have hC1 := hCW.add (r := (⟨3, 1, .slice ha R.length hc, R.length, flat inCell R⟩ : Rw)) hb1 hown
  clear hCW hown
  obtain ⟨M, eM⟩ : ∃ M, M = ((more ++ [(⟨24, 3, .slice (some ⟨X.heap.size, 0, none⟩) 1 1, 1, [.int .i64 s, .slice a len cap, .int .i64 p]⟩ : Rw)]) ++ [(⟨47, 6, .slice (some ⟨X.heap.size + 1, 0, none⟩) 1 1, 1, [.int .i64 jn, .int .i64 st, .slice ta tl tc, .slice aa al ac, .int .i64 asks, .int .i64 age]⟩ : Rw)]) ++ [(⟨3, 1, .slice ha R.length hc, R.length, flat inCell R⟩ : Rw)] := ⟨_, rfl⟩
  have HRow : Hid (∀ (U : World) (u : CkV) (ix : List (Nat × Nat)), TCl w U B q u ix M → (U.cell? ⟨X.heap.size + 1, 0, none⟩ = some (.int .i64 jn) ∧ X.heap.size + 1 < U.heap.size) ∧ U.ownsRow B 3 1 (.slice ha R.length hc) R.length (flat inCell R)) := fun U u ix hU => by
    rw [eM] at hU
    have e2 : (((more ++ [(⟨24, 3, .slice (some ⟨X.heap.size, 0, none⟩) 1 1, 1, [.int .i64 s, .slice a len cap, .int .i64 p]⟩ : Rw)]) ++ [(⟨47, 6, .slice (some ⟨X.heap.size + 1, 0, none⟩) 1 1, 1, [.int .i64 jn, .int .i64 st, .slice ta tl tc, .slice aa al ac, .int .i64 asks, .int .i64 age]⟩ : Rw)]) ++ [(⟨3, 1, .slice ha R.length hc, R.length, flat inCell R⟩ : Rw)])[more.length + 1]? = some (⟨47, 6, .slice (some ⟨X.heap.size + 1, 0, none⟩) 1 1, 1, [.int .i64 jn, .int .i64 st, .slice ta tl tc, .slice aa al ac, .int .i64 asks, .int .i64 age]⟩ : Rw) := by simp
    have e3 : (((more ++ [(⟨24, 3, .slice (some ⟨X.heap.size, 0, none⟩) 1 1, 1, [.int .i64 s, .slice a len cap, .int .i64 p]⟩ : Rw)]) ++ [(⟨47, 6, .slice (some ⟨X.heap.size + 1, 0, none⟩) 1 1, 1, [.int .i64 jn, .int .i64 st, .slice ta tl tc, .slice aa al ac, .int .i64 asks, .int .i64 age]⟩ : Rw)]) ++ [(⟨3, 1, .slice ha R.length hc, R.length, flat inCell R⟩ : Rw)])[more.length + 2]? = some (⟨3, 1, .slice ha R.length hc, R.length, flat inCell R⟩ : Rw) := by simp
    have o2 := hU.held.own.own _ _ (more_get e2)
    exact ⟨by simpa using own_at o2 (j := 0) (by show 0 < 1 * 6; decide), hU.held.own.own _ _ (more_get e3)⟩
  have HJm : Hid (JobsIn (kept jn v.js) ix2 M) := by
    show JobsIn _ _ _
    rw [eM]
    have h9 := HJn.out (⟨24, 3, .slice (some ⟨X.heap.size, 0, none⟩) 1 1, 1, [.int .i64 s, .slice a len cap, .int .i64 p]⟩ : Rw) (⟨47, 6, .slice (some ⟨X.heap.size + 1, 0, none⟩) 1 1, 1, [.int .i64 jn, .int .i64 st, .slice ta tl tc, .slice aa al ac, .int .i64 asks, .int .i64 age]⟩ : Rw) (⟨3, 1, .slice ha R.length hc, R.length, flat inCell R⟩ : Rw)
    simp only [List.append_assoc, List.cons_append, List.nil_append]
    exact h9
  rw [← eM] at hC1
  clear eM HJn hb1
  obtain ⟨N, eN⟩ : ∃ N, N = R.length := ⟨_, rfl⟩
  have HN : Hid (N = R.length) := eN
  rw [← eN] at HRow HL ⊢
  clear eN
  have hN := HL.out
  have h0 : TCl w w1 B q (toldV v v.ma v.mc jn false (R.take 0)) ix M := by simpa [toldV] using hC1
  clear hC1
  go_upto_region 4 with (fail)
  go_loopw [12] (fun s12 wr => ∃ (k : Nat) (m1 : Option Addr) (k1 : Nat), s12 = .int .i64 (k : Int) ∧ k ≤ N ∧ Hid (TCl w wr B q (toldV v m1 k1 jn false (R.take k)) ix M)) (fun s12 _ => N - (intOf s12).toNat)
  case atStart => exact ⟨0, v.ma, v.mc, rfl, Nat.zero_le _, h0⟩
  case round =>
    clear h0
    obtain ⟨k, m1, k1, rfl, hk, HC⟩ := hrel
    obtain ⟨⟨j0, zj⟩, hrow⟩ := HRow.out _ _ _ HC.out
    by_cases hlt : k < N
    · have hlt' : (k : Int) < (N : Int) := by omega
      have hk1 : IntKind.i64.wrap ((k : Int) + 1) = (k : Int) + 1 := by rw [IntKind.wrap_i64]; omega
      obtain ⟨g2, rfl, _, zg⟩ := own_spot hrow (by omega)
      have hNc : N ≤ hc := ((own_isRow in_len hrow HN.out.symm).1).2.1
      have cg : wr.cell? ⟨g2, k, none⟩ = some (.int .i64 (R.getD k default)) := by
        obtain ⟨b, off, e2, _, hcr⟩ := (own_isRow in_len hrow HN.out.symm).1.2.2.2.2 (by omega)
        have e3 : g2 = b ∧ 0 = off := by simpa using e2
        obtain ⟨rfl, rfl⟩ := e3
        have := hcr k hlt 0 (by decide)
        rw [Nat.zero_add, Nat.mul_one, Nat.add_zero] at this
        exact this
      have HAt : Hid (∀ (m5 : Option Addr) (c5 : Nat), ({ toldV v m1 k1 jn false (R.take k) with ma := m5, ml := (toldV v m1 k1 jn false (R.take k)).ml + 1, mc := c5, ms := (toldV v m1 k1 jn false (R.take k)).ms ++ [decM v.me jn false (R.getD k default)] } : CkV) = toldV v m5 c5 jn false (R.take (k + 1))) := fun m5 c5 => toldV_at (by rw [← HN.out]; exact hlt)
      have hml : ((toldV v m1 k1 jn false (R.take k)).ml + 1) * 96 ≤ 140737488355328 := told_fit Hn.out (Nat.le_trans (List.length_take_le k R) (Nat.le_trans hk hN))
      obtain ⟨Z, eZ⟩ : ∃ Z, Z = R.getD k default := ⟨_, rfl⟩
      rw [← eZ] at cg HAt
      clear eZ hrow
      obtain ⟨V, eV⟩ : ∃ V, V = toldV v m1 k1 jn false (R.take k) := ⟨_, rfl⟩
      rw [← eV] at HC HAt hml
      clear eV
      have KC : Hid (∀ U, Below wr.heap.size wr U → U.cell? ⟨X.heap.size + 1, 0, none⟩ = some (.int .i64 jn) ∧ U.cell? ⟨g2, k, none⟩ = some (.int .i64 Z) ∧ U.cell? ⟨q, 2, none⟩ = some (.slice V.ma V.ml V.mc) ∧ (X.heap.size + 1 < U.heap.size ∧ g2 < U.heap.size ∧ q < U.heap.size) ∧ TCl w U B q V ix M) := fun U hU => by
        have hC := HC.out.below hU
        exact ⟨(hU.cell (p := ⟨X.heap.size + 1, 0, none⟩) zj).trans j0, (hU.cell (p := ⟨g2, k, none⟩) zg).trans cg, (hC.held.box.c 2 (by decide)).1, ⟨Nat.lt_of_lt_of_le zj hU.size, Nat.lt_of_lt_of_le zg hU.size, hC.held.box.lt⟩, hC⟩
      have nT : ∀ {u v z : World}, Below u.heap.size u v → Below v.heap.size v z → Below u.heap.size u z := fun h k => h.trans (k.mono h.size)
      have HAb : Hid (∀ U : World, Calls Try.prog 29 #[.int .i64 v.me, .int .i64 4, .int .i64 Z, .int .i64 jn] U fun e w' => e = .returned (.agg #[.int .i64 4, .int .i64 v.me, .int .i64 Z, .int .i64 v.me, .int .i64 jn, .int .i64 0, .int .i64 0, .int .i64 0, .int .i64 0, .int .i64 0, .bool false, .int .i64 0]) ∧ Below U.heap.size U w') := fun U => about_any v.me 4 Z jn U
      go_upto_region 6 with (fail)
      clear j0 zj cg zg HC
      refine wp_region_inv (by kernel_rfl) [31, 32, 33, 34, 35, 36, 37, 38, 39, 40, 41, 42, 43, 44, 45, 46, 47] (fun L T u => ∃ (a5 : Option Addr) (c5 : Nat) (bA : Nat), True ∧ (L 0 = true → T 31 = .pointer (some ⟨q, 0, none⟩)) ∧ (L 1 = true → T 32 = .pointer (some ⟨q, 0, none⟩)) ∧ (L 2 = true → T 33 = .pointer (some ⟨q, 0, none⟩)) ∧ (L 3 = true → T 34 = .pointer (some ⟨q, 2, none⟩)) ∧ (L 4 = true → T 35 = .slice V.ma V.ml V.mc) ∧ (L 5 = true → T 36 = .int .i64 v.me) ∧ (L 6 = true → T 37 = .slice (some ⟨g2, 0, none⟩) N hc) ∧ (L 7 = true → T 38 = .int .i64 (k : Int)) ∧ (L 8 = true → T 39 = .pointer (some ⟨g2, k, none⟩)) ∧ (L 9 = true → T 40 = .int .i64 Z) ∧ (L 10 = true → T 41 = .pointer (some ⟨X.heap.size + 1, 0, none⟩)) ∧ (L 11 = true → T 42 = .int .i64 jn) ∧ (L 12 = true → T 43 = .agg #[.int .i64 4, .int .i64 v.me, .int .i64 Z, .int .i64 v.me, .int .i64 jn, .int .i64 0, .int .i64 0, .int .i64 0, .int .i64 0, .int .i64 0, .bool false, .int .i64 0]) ∧ (L 14 = true → T 45 = .slice a5 (V.ml + 1) c5) ∧ (L 15 = true → T 46 = .pointer (some ⟨q, 0, none⟩)) ∧ (L 16 = true → T 47 = .pointer (some ⟨q, 2, none⟩)) ∧ (L 14 = false → Below wr.heap.size wr u) ∧ (L 14 = true → L 17 = false → TApp w u B q V ix M a5 c5 (⟨4, v.me, Z, v.me, jn, 0, 0, 0, 0, 0, false, 0⟩ : MV)) ∧ (L 17 = true → TCl w u B q ({ V with ma := a5, ml := V.ml + 1, mc := c5, ms := V.ms ++ [(⟨4, v.me, Z, v.me, jn, 0, 0, 0, 0, 0, false, 0⟩ : MV)] } : CkV) ix M) ∧ (L 13 = true → L 14 = false → (T 44 = .slice (some ⟨bA, 0, none⟩) 1 1 ∧ wr.heap.size ≤ bA ∧ bA < u.heap.size)) ∧ (L 13 = true → L 14 = false → IsRow 12 mcells u (some ⟨bA, 0, none⟩) 1 1 [(⟨4, v.me, Z, v.me, jn, 0, 0, 0, 0, 0, false, 0⟩ : MV)])) (by decide) (by kernel_rfl) (by kernel_rfl) ?_ ?_ ?_
      · exact ⟨none, 0, 0, trivial, nofun, nofun, nofun, nofun, nofun, nofun, nofun, nofun, nofun, nofun, nofun, nofun, nofun, nofun, nofun, nofun, fun _ => (Below.refl _ _).drew, nofun, nofun, nofun, nofun⟩
      · refine ⟨?_, ?_, ?_, ?_, ?_, ?_, ?_, ?_, ?_, ?_, ?_, ?_, ?_, ?_, ?_, ?_, ?_, ?_, trivial⟩
        · rintro L T u hd hk hcl ⟨a5, c5, bA, hb, p0, p1, p2, p3, p4, p5, p6, p7, p8, p9, p10, p11, p12, p14, p15, p16, c1, c2, c3, pa13, bv13⟩ K hK
          simp only [fr, Act.put, List.setIfInBounds_toArray, List.set_cons_zero, List.set_cons_succ, updO] at hK ⊢
          simp [Region.binds] at hd
          rw [if_pos (by rfl)]
          simp only [Oper.wpv]
          go_simp
          exact hK _ _ ⟨a5, c5, bA, hb, fun _ => rfl, p1, p2, p3, p4, p5, p6, p7, p8, p9, p10, p11, p12, p14, p15, p16, c1, c2, c3, pa13, bv13⟩
        · rintro L T u hd hk hcl ⟨a5, c5, bA, hb, p0, p1, p2, p3, p4, p5, p6, p7, p8, p9, p10, p11, p12, p14, p15, p16, c1, c2, c3, pa13, bv13⟩ K hK
          simp only [fr, Act.put, List.setIfInBounds_toArray, List.set_cons_zero, List.set_cons_succ, updO] at hK ⊢
          simp [Region.binds] at hd
          rw [if_pos (by rfl)]
          simp only [Oper.wpv]
          go_simp
          exact hK _ _ ⟨a5, c5, bA, hb, p0, fun _ => rfl, p2, p3, p4, p5, p6, p7, p8, p9, p10, p11, p12, p14, p15, p16, c1, c2, c3, pa13, bv13⟩
        · rintro L T u hd hk hcl ⟨a5, c5, bA, hb, p0, p1, p2, p3, p4, p5, p6, p7, p8, p9, p10, p11, p12, p14, p15, p16, c1, c2, c3, pa13, bv13⟩ K hK
          simp only [fr, Act.put, List.setIfInBounds_toArray, List.set_cons_zero, List.set_cons_succ, updO] at hK ⊢
          simp [Region.binds] at hd
          have g1 := p1 (by simp [hd])
          rw [if_pos (by rfl)]
          simp only [Oper.wpv]
          go_simp
          exact hK _ _ ⟨a5, c5, bA, hb, p0, p1, fun _ => rfl, p3, p4, p5, p6, p7, p8, p9, p10, p11, p12, p14, p15, p16, c1, c2, c3, pa13, bv13⟩
        · rintro L T u hd hk hcl ⟨a5, c5, bA, hb, p0, p1, p2, p3, p4, p5, p6, p7, p8, p9, p10, p11, p12, p14, p15, p16, c1, c2, c3, pa13, bv13⟩ K hK
          simp only [fr, Act.put, List.setIfInBounds_toArray, List.set_cons_zero, List.set_cons_succ, updO] at hK ⊢
          simp [Region.binds] at hd
          have g2 := p2 (by simp [hd])
          rw [if_pos (by rfl)]
          simp only [Oper.wpv]
          go_simp
          exact hK _ _ ⟨a5, c5, bA, hb, p0, p1, p2, fun _ => rfl, p4, p5, p6, p7, p8, p9, p10, p11, p12, p14, p15, p16, c1, c2, c3, pa13, bv13⟩
        · rintro L T u hd hk hcl ⟨a5, c5, bA, hb, p0, p1, p2, p3, p4, p5, p6, p7, p8, p9, p10, p11, p12, p14, p15, p16, c1, c2, c3, pa13, bv13⟩ K hK
          simp only [fr, Act.put, List.setIfInBounds_toArray, List.set_cons_zero, List.set_cons_succ, updO] at hK ⊢
          simp [Region.binds] at hd
          have g3 := p3 (by simp [hd])
          have k14 := hcl 14 _ rfl
          simp [Region.binds] at k14
          have hE : L 14 = false := by cases h : L 14 with | false => rfl | true => have a14 := k14 h; simp [hk] at a14
          obtain ⟨x0, x1, x2, ⟨zx0, zx1, zx2⟩, -⟩ := KC.out u (c1 hE)
          rw [if_pos (by rfl)]
          simp only [Oper.wpv]
          go_simp
          exact hK _ _ ⟨a5, c5, bA, hb, p0, p1, p2, p3, fun _ => rfl, p5, p6, p7, p8, p9, p10, p11, p12, p14, p15, p16, c1, c2, c3, pa13, bv13⟩
        · rintro L T u hd hk hcl ⟨a5, c5, bA, hb, p0, p1, p2, p3, p4, p5, p6, p7, p8, p9, p10, p11, p12, p14, p15, p16, c1, c2, c3, pa13, bv13⟩ K hK
          simp only [fr, Act.put, List.setIfInBounds_toArray, List.set_cons_zero, List.set_cons_succ, updO] at hK ⊢
          simp [Region.binds] at hd
          rw [if_pos (by rfl)]
          simp only [Oper.wpv]
          go_simp
          exact hK _ _ ⟨a5, c5, bA, hb, p0, p1, p2, p3, p4, fun _ => rfl, p6, p7, p8, p9, p10, p11, p12, p14, p15, p16, c1, c2, c3, pa13, bv13⟩
        · rintro L T u hd hk hcl ⟨a5, c5, bA, hb, p0, p1, p2, p3, p4, p5, p6, p7, p8, p9, p10, p11, p12, p14, p15, p16, c1, c2, c3, pa13, bv13⟩ K hK
          simp only [fr, Act.put, List.setIfInBounds_toArray, List.set_cons_zero, List.set_cons_succ, updO] at hK ⊢
          simp [Region.binds] at hd
          rw [if_pos (by rfl)]
          simp only [Oper.wpv]
          go_simp
          exact hK _ _ ⟨a5, c5, bA, hb, p0, p1, p2, p3, p4, p5, fun _ => rfl, p7, p8, p9, p10, p11, p12, p14, p15, p16, c1, c2, c3, pa13, bv13⟩
        · rintro L T u hd hk hcl ⟨a5, c5, bA, hb, p0, p1, p2, p3, p4, p5, p6, p7, p8, p9, p10, p11, p12, p14, p15, p16, c1, c2, c3, pa13, bv13⟩ K hK
          simp only [fr, Act.put, List.setIfInBounds_toArray, List.set_cons_zero, List.set_cons_succ, updO] at hK ⊢
          simp [Region.binds] at hd
          rw [if_pos (by rfl)]
          simp only [Oper.wpv]
          go_simp
          exact hK _ _ ⟨a5, c5, bA, hb, p0, p1, p2, p3, p4, p5, p6, fun _ => rfl, p8, p9, p10, p11, p12, p14, p15, p16, c1, c2, c3, pa13, bv13⟩
        · rintro L T u hd hk hcl ⟨a5, c5, bA, hb, p0, p1, p2, p3, p4, p5, p6, p7, p8, p9, p10, p11, p12, p14, p15, p16, c1, c2, c3, pa13, bv13⟩ K hK
          simp only [fr, Act.put, List.setIfInBounds_toArray, List.set_cons_zero, List.set_cons_succ, updO] at hK ⊢
          simp [Region.binds] at hd
          have g6 := p6 (by simp [hd])
          have g7 := p7 (by simp [hd])
          rw [if_pos (by rfl)]
          simp only [Oper.wpv]
          go_simp
          exact hK _ _ ⟨a5, c5, bA, hb, p0, p1, p2, p3, p4, p5, p6, p7, fun _ => rfl, p9, p10, p11, p12, p14, p15, p16, c1, c2, c3, pa13, bv13⟩
        · rintro L T u hd hk hcl ⟨a5, c5, bA, hb, p0, p1, p2, p3, p4, p5, p6, p7, p8, p9, p10, p11, p12, p14, p15, p16, c1, c2, c3, pa13, bv13⟩ K hK
          simp only [fr, Act.put, List.setIfInBounds_toArray, List.set_cons_zero, List.set_cons_succ, updO] at hK ⊢
          simp [Region.binds] at hd
          have g8 := p8 (by simp [hd])
          have k14 := hcl 14 _ rfl
          simp [Region.binds] at k14
          have k13 := hcl 13 _ rfl
          simp [Region.binds] at k13
          have k12 := hcl 12 _ rfl
          simp [Region.binds] at k12
          have hE : L 14 = false := by cases h : L 14 with | false => rfl | true => have a14 := k14 h; have a13 := k13 (by simp [a14]); have a12 := k12 (by simp [a13]); simp [hk] at a12
          obtain ⟨x0, x1, x2, ⟨zx0, zx1, zx2⟩, -⟩ := KC.out u (c1 hE)
          rw [if_pos (by rfl)]
          simp only [Oper.wpv]
          go_simp
          exact hK _ _ ⟨a5, c5, bA, hb, p0, p1, p2, p3, p4, p5, p6, p7, p8, fun _ => rfl, p10, p11, p12, p14, p15, p16, c1, c2, c3, pa13, bv13⟩
        · rintro L T u hd hk hcl ⟨a5, c5, bA, hb, p0, p1, p2, p3, p4, p5, p6, p7, p8, p9, p10, p11, p12, p14, p15, p16, c1, c2, c3, pa13, bv13⟩ K hK
          simp only [fr, Act.put, List.setIfInBounds_toArray, List.set_cons_zero, List.set_cons_succ, updO] at hK ⊢
          simp [Region.binds] at hd
          rw [if_pos (by rfl)]
          simp only [Oper.wpv]
          go_simp
          exact hK _ _ ⟨a5, c5, bA, hb, p0, p1, p2, p3, p4, p5, p6, p7, p8, p9, fun _ => rfl, p11, p12, p14, p15, p16, c1, c2, c3, pa13, bv13⟩
        · rintro L T u hd hk hcl ⟨a5, c5, bA, hb, p0, p1, p2, p3, p4, p5, p6, p7, p8, p9, p10, p11, p12, p14, p15, p16, c1, c2, c3, pa13, bv13⟩ K hK
          simp only [fr, Act.put, List.setIfInBounds_toArray, List.set_cons_zero, List.set_cons_succ, updO] at hK ⊢
          simp [Region.binds] at hd
          have g10 := p10 (by simp [hd])
          have k14 := hcl 14 _ rfl
          simp [Region.binds] at k14
          have k13 := hcl 13 _ rfl
          simp [Region.binds] at k13
          have k12 := hcl 12 _ rfl
          simp [Region.binds] at k12
          have hE : L 14 = false := by cases h : L 14 with | false => rfl | true => have a14 := k14 h; have a13 := k13 (by simp [a14]); have a12 := k12 (by simp [a13]); simp [hk] at a12
          obtain ⟨x0, x1, x2, ⟨zx0, zx1, zx2⟩, -⟩ := KC.out u (c1 hE)
          rw [if_pos (by rfl)]
          simp only [Oper.wpv]
          go_simp
          exact hK _ _ ⟨a5, c5, bA, hb, p0, p1, p2, p3, p4, p5, p6, p7, p8, p9, p10, fun _ => rfl, p12, p14, p15, p16, c1, c2, c3, pa13, bv13⟩
        · rintro L T u hd hk hcl ⟨a5, c5, bA, hb, p0, p1, p2, p3, p4, p5, p6, p7, p8, p9, p10, p11, p12, p14, p15, p16, c1, c2, c3, pa13, bv13⟩ K hK
          simp only [fr, Act.put, List.setIfInBounds_toArray, List.set_cons_zero, List.set_cons_succ, updO] at hK ⊢
          simp [Region.binds] at hd
          have g5 := p5 (by simp [hd])
          have g9 := p9 (by simp [hd])
          have g11 := p11 (by simp [hd])
          have k14 := hcl 14 _ rfl
          simp [Region.binds] at k14
          have k13 := hcl 13 _ rfl
          simp [Region.binds] at k13
          have hE : L 14 = false := by cases h : L 14 with | false => rfl | true => have a14 := k14 h; have a13 := k13 (by simp [a14]); simp [hk] at a13
          rw [if_pos (by rfl)]
          simp only [Oper.wpv]
          go_simp
          refine (HAb.out u).mono ?_
          rintro e u1 ⟨rfl, hg⟩
          exact hK _ _ ⟨a5, c5, bA, hb, p0, p1, p2, p3, p4, p5, p6, p7, p8, p9, p10, p11, fun _ => rfl, p14, p15, p16, fun _ => nT (c1 hE) hg, fun h _ => absurd (show L 14 = true from h) (by simp [hE]), fun h0 => ((c3 h0)).below hg, fun h0 h1 => ⟨(pa13 h0 h1).1, (pa13 h0 h1).2.1, Nat.lt_of_lt_of_le (pa13 h0 h1).2.2 hg.size⟩, fun h0 h1 => St.IsRow.below (bv13 h0 h1) hg⟩
        · rintro L T u hd hk hcl ⟨a5, c5, bA, hb, p0, p1, p2, p3, p4, p5, p6, p7, p8, p9, p10, p11, p12, p14, p15, p16, c1, c2, c3, pa13, bv13⟩ K hK
          simp only [fr, Act.put, List.setIfInBounds_toArray, List.set_cons_zero, List.set_cons_succ, updO] at hK ⊢
          simp [Region.binds] at hd
          have k14 := hcl 14 _ rfl
          simp [Region.binds] at k14
          have hE : L 14 = false := by cases h : L 14 with | false => rfl | true => have a14 := k14 h; simp [hk] at a14
          have g12 := p12 (by simp [hd])
          have k17 := hcl 17 _ rfl
          simp [Region.binds] at k17
          have hg : Below u.heap.size u (u.alloc (.cells #[.int .i64 4, .int .i64 v.me, .int .i64 Z, .int .i64 v.me, .int .i64 jn, .int .i64 0, .int .i64 0, .int .i64 0, .int .i64 0, .int .i64 0, .bool false, .int .i64 0] 75)) := (Below.refl _ _).alloc (Nat.le_refl _) _
          rw [if_pos (by rfl)]
          simp only [Oper.wpv]
          go_simp
          exact hK _ _ ⟨a5, c5, u.heap.size, hb, p0, p1, p2, p3, p4, p5, p6, p7, p8, p9, p10, p11, p12, p14, p15, p16, fun _ => nT (c1 hE) hg, fun h _ => absurd (show L 14 = true from h) (by simp [hE]), fun h0 => ((c3 h0)).below hg, fun _ _ => ⟨rfl, (c1 hE).size, by simp⟩, fun _ _ => rowOne (cells := mcells) (k := 12) u #[.int .i64 4, .int .i64 v.me, .int .i64 Z, .int .i64 v.me, .int .i64 jn, .int .i64 0, .int .i64 0, .int .i64 0, .int .i64 0, .int .i64 0, .bool false, .int .i64 0] 75 (⟨4, v.me, Z, v.me, jn, 0, 0, 0, 0, 0, false, 0⟩ : MV) rfl rfl⟩
        · rintro L T u hd hk hcl ⟨a5, c5, bA, hb, p0, p1, p2, p3, p4, p5, p6, p7, p8, p9, p10, p11, p12, p14, p15, p16, c1, c2, c3, pa13, bv13⟩ K hK
          simp only [fr, Act.put, List.setIfInBounds_toArray, List.set_cons_zero, List.set_cons_succ, updO] at hK ⊢
          simp [Region.binds] at hd
          have hE : L 14 = false := hk
          have g4 := p4 (by simp [hd])
          have g13 := pa13 (by simp [hd]) hE
          have k17 := hcl 17 _ rfl
          simp [Region.binds] at k17
          have hrw := bv13 (by simp [hd]) hE
          have hT := (KC.out u (c1 hE)).2.2.2.2
          have hOm := hT.held.own.own 1 ⟨75, 12, .slice V.ma V.ml V.mc, V.ml, flat mcells V.ms⟩ rfl
          simp only [] at hOm
          have hBu : B ≤ u.heap.size := Nat.le_trans hT.held.le (Nat.le_of_lt hT.held.box.lt)
          rw [if_pos (by rfl)]
          simp only [Oper.wpv]
          refine St.wpv_append_row EM (.tmp 35) (.tmp 44) (by rfl) B (.slice V.ma V.ml V.mc) V.ml V.ms g4 hOm (some ⟨bA, 0, none⟩) 1 1 [(⟨4, v.me, Z, v.me, jn, 0, 0, 0, 0, 0, false, 0⟩ : MV)] (g13.1) hrw (by unfold maxLen; omega) (by omega) hBu ?_
          intro a6 c6 u6 own6 gr6 at6
          have hD1 := hT.app gr6 own6 at6
          exact hK _ _ ⟨a6, c6, bA, hb, p0, p1, p2, p3, p4, p5, p6, p7, p8, p9, p10, p11, p12, fun _ => rfl, p15, p16, fun h0 => Bool.noConfusion (show true = false from h0), fun _ _ => hD1, fun h => absurd (show L 17 = true from h) (by intro hh; have a17 := k17 hh; simp [hk] at a17), fun h0 h1 => Bool.noConfusion (show true = false from h1), fun h0 h1 => Bool.noConfusion (show true = false from h1)⟩
        · rintro L T u hd hk hcl ⟨a5, c5, bA, hb, p0, p1, p2, p3, p4, p5, p6, p7, p8, p9, p10, p11, p12, p14, p15, p16, c1, c2, c3, pa13, bv13⟩ K hK
          simp only [fr, Act.put, List.setIfInBounds_toArray, List.set_cons_zero, List.set_cons_succ, updO] at hK ⊢
          simp [Region.binds] at hd
          have g0 := p0 (by simp [hd])
          rw [if_pos (by rfl)]
          simp only [Oper.wpv]
          go_simp
          exact hK _ _ ⟨a5, c5, bA, hb, p0, p1, p2, p3, p4, p5, p6, p7, p8, p9, p10, p11, p12, p14, fun _ => rfl, p16, c1, c2, c3, pa13, bv13⟩
        · rintro L T u hd hk hcl ⟨a5, c5, bA, hb, p0, p1, p2, p3, p4, p5, p6, p7, p8, p9, p10, p11, p12, p14, p15, p16, c1, c2, c3, pa13, bv13⟩ K hK
          simp only [fr, Act.put, List.setIfInBounds_toArray, List.set_cons_zero, List.set_cons_succ, updO] at hK ⊢
          simp [Region.binds] at hd
          have g15 := p15 (by simp [hd])
          rw [if_pos (by rfl)]
          simp only [Oper.wpv]
          go_simp
          exact hK _ _ ⟨a5, c5, bA, hb, p0, p1, p2, p3, p4, p5, p6, p7, p8, p9, p10, p11, p12, p14, p15, fun _ => rfl, c1, c2, c3, pa13, bv13⟩
        · rintro L T u hd hk hcl ⟨a5, c5, bA, hb, p0, p1, p2, p3, p4, p5, p6, p7, p8, p9, p10, p11, p12, p14, p15, p16, c1, c2, c3, pa13, bv13⟩ K hK
          simp only [fr, Act.put, List.setIfInBounds_toArray, List.set_cons_zero, List.set_cons_succ, updO] at hK ⊢
          simp [Region.binds] at hd
          have g14 := p14 (by simp [hd])
          have g16 := p16 (by simp [hd])
          have a14 : L 14 = true := by simp [hd]
          have hE1 : L 14 = true := a14
          have D1 := c2 hE1 hk
          obtain ⟨qc2, qf2, qz2⟩ := D1.cell
          rw [if_pos (by rfl)]
          simp only [Oper.wpv]
          go_simp
          exact hK _ _ ⟨a5, c5, bA, hb, p0, p1, p2, p3, p4, p5, p6, p7, p8, p9, p10, p11, p12, p14, p15, p16, fun h0 => Bool.noConfusion (hE1.symm.trans (show L 14 = false from h0)), fun _ h => Bool.noConfusion (show true = false from h), fun _ => D1.tell, fun h0 h1 => Bool.noConfusion (hE1.symm.trans (show L 14 = false from h1)), fun h0 h1 => Bool.noConfusion (hE1.symm.trans (show L 14 = false from h1))⟩
      · rintro L T u hl ⟨a5, c5, bA, hb, p0, p1, p2, p3, p4, p5, p6, p7, p8, p9, p10, p11, p12, p14, p15, p16, c1, c2, c3, pa13, bv13⟩
        simp only [fr, Act.put, List.setIfInBounds_toArray, List.set_cons_zero, List.set_cons_succ]
        have hfin := c3 (hl 17 (by decide))
        clear p0 p1 p2 p3 p4 p5 p6 p7 p8 p9 p10 p11 p12 p14 p15 p16 c1 c2 c3 pa13 bv13 hl KC HAb nT
        have HC2 : Hid (TCl w u B q (toldV v a5 c5 jn false (R.take (k + 1))) ix M) := by show TCl _ _ _ _ _ _ _; rw [← HAt.out]; exact hfin
        clear hfin HAt
        go_wp2
        go_roundw
        case rel => exact ⟨k + 1, a5, c5, by go_num, by omega, HC2⟩
        case measure => simp [intOf]; omega
    · have hkN : k = N := by omega
      have hnl : ¬ ((k : Int) < (N : Int)) := by omega
      have HC2 : Hid (TCl w wr B q (toldV v m1 k1 jn false R) ix M) := by
        have h9 := HC.out
        rw [List.take_of_length_le (by rw [hkN, HN.out]; exact Nat.le_refl _)] at h9
        exact h9
      clear hkN hk hlt hN HC hrow j0 zj HRow
      have q1 : wr.cell? ⟨q, 1, none⟩ = some (.slice v.ja v.jl v.jc) := (HC2.out.held.box.c 1 (by decide)).1
      have qz := HC2.out.held.box.lt
      have hJl : v.js.length = v.jl := HC2.out.lens.1
      have hRj : IsJobRow wr v.ja v.jl v.jc v.js := (own_isRow jb_len HC2.out.jobRow HC2.out.lens.1).1
      have hWo := without_any v.ja v.jl v.jc v.js i wr hRj (by omega) hi
      have e9 : woAt v.js i v.jl = kept jn v.js := by rw [← hJl]; exact HWo.out
      rw [e9] at hWo
      have HWc : Hid (Calls Try.prog 61 #[.slice v.ja v.jl v.jc, .int .i64 (i : Int)] wr fun e w' => ∃ a5 c5 m, e = .returned (.slice a5 m c5) ∧ m = (kept jn v.js).length ∧ w'.ownsRow wr.heap.size 47 6 (.slice a5 m c5) m (flat JbV.cells (kept jn v.js)) ∧ Below wr.heap.size wr w') := hWo
      clear hWo e9 hRj HWo hJl
      have HPut : Hid (∀ (Z : World) (a5 : Option Addr) (c5 m : Nat), m = (kept jn v.js).length → Z.ownsRow wr.heap.size 47 6 (.slice a5 m c5) m (flat JbV.cells (kept jn v.js)) → Below wr.heap.size wr Z → EndedIs w (Z.setCell ⟨q, 1, none⟩ (.slice a5 m c5)) B q v jn R (.returned (.tuple #[])) ∧ (Z.cell? ⟨q, 1, none⟩ = some (.slice v.ja v.jl v.jc) ∧ Z.frozen? ⟨q, 1, none⟩ = false ∧ q < Z.heap.size)) := fun Z a5 c5 m hm ho hb => by
        have h1 := HC2.out.jobsNew hb ho hm.symm HJm.out
        have h2 := HC2.out.below hb
        subst hm
        exact ⟨⟨rfl, m1, k1, a5, c5, ix2, M, h1⟩, (h2.held.box.c 1 (by decide)).1, (h2.held.box.c 1 (by decide)).2, h2.held.box.lt⟩
      clear HC2 HJm
      go_wp2_with (go_at_call 61; refine HWc.out.mono ?_; rintro e Z ⟨a5, c5, m, rfl, hm, ho, hZ⟩; obtain ⟨h6, z1, zf1, zz⟩ := HPut.out Z a5 c5 m hm ho hZ)
      rw [hm] at h6
      exact bodyPost_end (v := .tuple #[]) (by simp [results, Try.results31, go_sem]) rfl h6
end Go.Proofs.Ytfhciplckjkflaa.Cd
/- The clerk's sure: what a job has read is as it was, or it is not. -/
namespace Go.Proofs.Ytfhciplckjkflaa.Co
open Go.ChangeShapes Go.WideShapes Go.ChangeAt Go.RowKit
open Go.Proofs.Ytfhciplckjkflaa.St (BoxN boxn_new own_below grown_setCell IsRow Elem flat flat_append own_isRow idxI idxI_lt)
set_option linter.unusedVariables false

def readB (m : MV) (t : TkV) : Bool := !t.write && (t.label == m.label) && (t.key == m.key) && (t.version == m.version)
def mark (m : MV) (t : TkV) : TkV := if readB m t = true then { t with sure := true } else t
def markTo (m : MV) (ts : List TkV) (k : Nat) : List TkV := (ts.take k).map (mark m) ++ ts.drop k
theorem markTo_zero (m : MV) (ts : List TkV) : markTo m ts 0 = ts := by simp [markTo]
theorem markTo_all (m : MV) (ts : List TkV) {k : Nat} (h : ts.length ≤ k) : markTo m ts k = ts.map (mark m) := by
  unfold markTo
  rw [List.take_of_length_le h, List.drop_of_length_le h, List.append_nil]
theorem markTo_len (m : MV) (ts : List TkV) (k : Nat) : (markTo m ts k).length = ts.length := by
  unfold markTo
  simp
  omega
theorem markTo_at (m : MV) {ts : List TkV} {k : Nat} (h : k < ts.length) : (markTo m ts k).getD k default = ts.getD k default := by
  unfold markTo
  simp only [List.getD]
  rw [List.getElem?_append_right (by simp; omega)]
  have : (List.map (mark m) (List.take k ts)).length = k := by simp; omega
  rw [this]
  simp
theorem markTo_succ (m : MV) {ts : List TkV} {k : Nat} (h : k < ts.length) : markTo m ts (k + 1) = (markTo m ts k).set k (mark m (ts.getD k default)) := by
  unfold markTo
  have hl : (List.map (mark m) (List.take k ts)).length = k := by simp; omega
  have e1 : ts.take (k + 1) = ts.take k ++ [ts.getD k default] := by rw [List.take_add_one]; simp [List.getD, h]
  rw [e1, List.map_append, List.set_append_right _ _ (by omega), hl, Nat.sub_self]
  rw [show ts.drop k = ts.getD k default :: ts.drop (k + 1) by rw [List.drop_eq_getElem_cons h]; simp [List.getD, h]]
  simp
def Tn.sured (t : Tn) (C : Cx) (i : Nat) (m : MV) : Tn :=
  if (decide ((t.js.getD i default).state = 2) && (m.frm == C.home m.key) && (t.js.getD i default).tasks.any (readB m)) = true then
    (if m.yes = true then
      (if allSure ((t.js.getD i default).tasks.map (mark m)) = true then Tn.comm { t with js := t.js.set i { t.js.getD i default with tasks := (t.js.getD i default).tasks.map (mark m) } } C i
      else { t with js := t.js.set i { t.js.getD i default with tasks := (t.js.getD i default).tasks.map (mark m) } })
    else Tn.ended (t.rep C 4 (t.js.getD i default).n 0 0 11) C (t.js.getD i default).n (t.js.getD i default).tasks)
  else t
end Go.Proofs.Ytfhciplckjkflaa.Co
/- The clerk's doubts. -/
namespace Go.Proofs.Ytfhciplckjkflaa.Co
open Go.ChangeShapes Go.WideShapes Go.ChangeAt Go.RowKit
open Go.Proofs.Ytfhciplckjkflaa.St (BoxN boxn_new own_below grown_setCell IsRow Elem flat flat_append own_isRow idxI idxI_lt)
set_option linter.unusedVariables false

def Tn.told (t : Tn) (C : Cx) (n : Int) (yes : Bool) (site : Int) : Tn := { t with ms := t.ms ++ [decM C.me n yes site] }
def Tn.doubted (t : Tn) (C : Cx) (i : Nat) (m : MV) : Tn := if (decide ((t.js.getD i default).state = 3) && (t.js.getD i default).asked.any fun y => m.frm == y) = true then t.told C (t.js.getD i default).n true m.frm else t
theorem send_dec {w : World} {B q : Nat} {v : CkV} {ix : List (Nat × Nat)} {more : List Rw} (X : World) (h : Clerk w X B q v ix more) (hr : RecsIn v.rs more) (ls : List (Int × Int)) (n : Int) (yes : Bool) (site : Int) (hm : v.ml ≤ 1000000) :
    Calls Try.prog 50 #[.pointer (some ⟨q, 0, none⟩), .int .i64 n, .int .i64 site, .agg #[.int .i64 4, .int .i64 0, .int .i64 0, .int .i64 0, .int .i64 0, .int .i64 0, .int .i64 0, .int .i64 0, .int .i64 0, .int .i64 0, .bool yes, .int .i64 0]] X fun e X' => e = .returned (.tuple #[]) ∧ DoneIs w X' B q v (v.tn.told (v.cx ls) n yes site) (.returned (.tuple #[])) := by
  refine (send_any X h n site ⟨4, 0, 0, 0, 0, 0, 0, 0, 0, 0, yes, 0⟩ (fitM1 hm)).mono ?_
  rintro e u ⟨rfl, a5, c5, h5⟩
  exact ⟨rfl, rfl, _, ix, more, h5, hr, rfl, rfl, rfl, rfl, rfl, rfl, rfl, rfl⟩
end Go.Proofs.Ytfhciplckjkflaa.Co
