/- Texts of this claim, one behind the other. -/
import Derived.Test.YtcfhhjnbkpgpeaaDoorM13RebuildOn
import Derived.Test.YtcfhhjnbkpgpeaaDoorM14RebuildOn
import Derived.Test.YtcfhhjnbkpgpeaaDoorM11RebuildOn
import Derived.LoopTactic
import Derived.Deep.RegionLaw
import Derived.Deep.DeepCutAuto
import Derived.Deep.RegionHeld3
import Derived.Shelf.Abstract
/- The clerk: a box that holds the config, the label, the site and the turn that is being made; its lists are rows of the call's own. -/
namespace Go.Proofs.YtcfhhjnbkpgpeaaDoor.Co
open Go.ChangeShapes Go.WideShapes Go.ChangeAt Go.RowKit
open Go.Proofs.YtcfhhjnbkpgpeaaDoor.St (BoxN boxn_new own_below grown_setCell IsRow Elem flat flat_append own_isRow)
set_option linter.unusedVariables false

theorem rowOne {α : Type} [Inhabited α] {k : Nat} {cells : α → List Value} (u : World) (cs : Array Value) (t : TypeId) (x : α) (hc : cs.toList = cells x) (hk : cs.size = k) : IsRow k cells (u.alloc (.cells cs t)) (some ⟨u.heap.size, 0, none⟩) 1 1 [x] := by
  refine ⟨rfl, Nat.le_refl _, by unfold maxLen; omega, fun e => by simp at e, fun _ => ⟨u.heap.size, 0, rfl, by simp, fun i hi j hj => ?_⟩⟩
  obtain rfl : i = 0 := by omega
  have hb : (u.alloc (.cells cs t)).heap[u.heap.size]? = some (.cells cs t (0, 0)) := heap_alloc_new u _
  rw [Nat.zero_mul, Nat.zero_add, cell_of_row _ u.heap.size j cs t (0, 0) hb]
  simp only [List.getD_cons_zero]
  rw [← hc, Array.getElem?_toList]
/-- A message's cells. -/
instance : Inhabited MV := ⟨⟨0, 0, 0, 0, 0, 0, 0, 0, 0, 0, false, 0⟩⟩
def mcells (m : MV) : List Value := [.int .i64 m.kind, .int .i64 m.frm, .int .i64 m.dst, .int .i64 m.site, .int .i64 m.num, .int .i64 m.label, .int .i64 m.key, .int .i64 m.value, .int .i64 m.version, .int .i64 m.ask, .bool m.yes, .int .i64 m.code]
theorem mcells_len (m : MV) : (mcells m).length = 12 := rfl
theorem mcells_one (y : MV) : ∀ u ∈ mcells y, u.oneCell' = true := by
  intro u hu
  simp only [mcells, List.mem_cons, List.not_mem_nil, or_false] at hu
  rcases hu with rfl | rfl | rfl | rfl | rfl | rfl | rfl | rfl | rfl | rfl | rfl | rfl <;> rfl
/-- A reply. -/
structure RpV where
  site : Int
  kind : Int
  n : Int
  key : Int
  value : Int
  code : Int
instance : Inhabited RpV := ⟨⟨0, 0, 0, 0, 0, 0⟩⟩
def RpV.cells (r : RpV) : List Value := [.int .i64 r.site, .int .i64 r.kind, .int .i64 r.n, .int .i64 r.key, .int .i64 r.value, .int .i64 r.code]
def RpV.val (r : RpV) : Value := .agg #[.int .i64 r.site, .int .i64 r.kind, .int .i64 r.n, .int .i64 r.key, .int .i64 r.value, .int .i64 r.code]
theorem rp_len (m : RpV) : (RpV.cells m).length = 6 := rfl
theorem rp_one (y : RpV) : ∀ u ∈ y.cells, u.oneCell' = true := by
  intro u hu
  simp only [RpV.cells, List.mem_cons, List.not_mem_nil, or_false] at hu
  rcases hu with rfl | rfl | rfl | rfl | rfl | rfl <;> rfl
/-- A record with its sites. -/
structure RcV where
  kind : Int
  site : Int
  num : Int
  key : Int
  value : Int
  ask : Int
  yes : Bool
  sa : Option Addr
  sl : Nat
  sc : Nat
  zs : List Int
instance : Inhabited RcV := ⟨⟨0, 0, 0, 0, 0, 0, false, none, 0, 0, []⟩⟩
def RcV.cells (r : RcV) : List Value := [.int .i64 r.kind, .int .i64 r.site, .int .i64 r.num, .int .i64 r.key, .int .i64 r.value, .int .i64 r.ask, .bool r.yes, .slice r.sa r.sl r.sc]
/-- The clerk's own numbers and slices. -/
structure CkV where
  s : Int
  a : Option Addr
  len : Nat
  cap : Nat
  p : Int
  l : Int
  me : Int
  next : Int
  ja : Option Addr
  jl : Nat
  jc : Nat
  ma : Option Addr
  ml : Nat
  mc : Nat
  ra : Option Addr
  rl : Nat
  rc : Nat
  pa : Option Addr
  pl : Nat
  pc : Nat
  sure : Int
  com : Int
  js : List JbV
  ms : List MV
  rs : List RcV
  ps : List RpV
def CkV.cells (v : CkV) : List Value := [.int .i64 v.s, .slice v.a v.len v.cap, .int .i64 v.p, .int .i64 v.l, .int .i64 v.me, .int .i64 v.next, .slice v.ja v.jl v.jc, .slice v.ma v.ml v.mc, .slice v.ra v.rl v.rc, .slice v.pa v.pl v.pc, .int .i64 v.sure, .int .i64 v.com]
/-- Where the jobs' own lists stand among the rows behind the first four. -/
def JobsIn (js : List JbV) (ix : List (Nat × Nat)) (more : List Rw) : Prop :=
  ix.length = js.length ∧ (∀ (i : Nat) (j : JbV) (x : Nat × Nat), js[i]? = some j → ix[i]? = some x → more[x.1]? = some ⟨154, 8, .slice j.ta j.tl j.tc, j.tl, flat TkV.cells j.tasks⟩ ∧ more[x.2]? = some ⟨3, 1, .slice j.aa j.al j.ac, j.al, flat inCell j.asked⟩) ∧ (∀ (i k : Nat) (x y : Nat × Nat), ix[i]? = some x → ix[k]? = some y → i ≠ k → x.1 ≠ y.1 ∧ x.1 ≠ y.2 ∧ x.2 ≠ y.1 ∧ x.2 ≠ y.2) ∧ ∀ (i : Nat) (x : Nat × Nat), ix[i]? = some x → x.1 ≠ x.2
end Go.Proofs.YtcfhhjnbkpgpeaaDoor.Co
/- fresh.Desk: a desk in memory of the call's own: the jobs' row, and the rows of each job's tasks and sites. -/
namespace Go.Proofs.YtcfhhjnbkpgpeaaDoor.Co
open Go.ChangeShapes Go.WideShapes Go.ChangeAt Go.RowKit
open Go.Proofs.YtcfhhjnbkpgpeaaDoor.St (BoxN boxn_new own_below grown_setCell IsRow Elem flat flat_append own_isRow)
set_option linter.unusedVariables false

theorem tk_len (x : TkV) : x.cells.length = 8 := rfl
theorem tk_one (y : TkV) : ∀ u ∈ y.cells, u.oneCell' = true := by
  intro u hu
  simp only [TkV.cells, List.mem_cons, List.not_mem_nil, or_false] at hu
  rcases hu with rfl | rfl | rfl | rfl | rfl | rfl | rfl | rfl <;> rfl
theorem tkInfo : (Tryd.prog.info? 154).map (fun i => (i.zero, i.size, i.bytes)) = some (some (.agg #[.bool false, .int .i64 0, .int .i64 0, .int .i64 0, .int .i64 0, .int .i64 0, .bool false, .bool false]), 8, 56) := by kernel_rfl
theorem tkElem : ∃ i, Elem 8 TkV.cells 154 59 i (.agg #[.bool false, .int .i64 0, .int .i64 0, .int .i64 0, .int .i64 0, .int .i64 0, .bool false, .bool false]) 56 := by
  obtain ⟨j0, hj, lj0, lj1, lj2⟩ := info_parts tkInfo
  exact ⟨j0, tk_len, by decide, tk_one, Tryd.underlying59, hj, lj0, lj1, lj2, rfl⟩
theorem in_len (x : Int) : (inCell x).length = 1 := rfl
theorem in_one (y : Int) : ∀ u ∈ inCell y, u.oneCell' = true := by
  intro u hu
  simp only [inCell, List.mem_cons, List.not_mem_nil, or_false] at hu
  rcases hu with rfl
  rfl
theorem inInfo : (Tryd.prog.info? 3).map (fun i => (i.zero, i.size, i.bytes)) = some (some (.int .i64 0), 1, 8) := by kernel_rfl
theorem inElem : ∃ i, Elem 1 inCell 3 29 i (.int .i64 0) 8 := by
  obtain ⟨j0, hj, lj0, lj1, lj2⟩ := info_parts inInfo
  exact ⟨j0, in_len, by decide, in_one, Tryd.underlying29, hj, lj0, lj1, lj2, rfl⟩
theorem jb_len (x : JbV) : x.cells.length = 6 := rfl
theorem jb_one (y : JbV) : ∀ u ∈ y.cells, u.oneCell' = true := by
  intro u hu
  simp only [JbV.cells, List.mem_cons, List.not_mem_nil, or_false] at hu
  rcases hu with rfl | rfl | rfl | rfl | rfl | rfl <;> rfl
theorem jbInfo : (Tryd.prog.info? 61).map (fun i => (i.zero, i.size, i.bytes)) = some (some (.agg #[.int .i64 0, .int .i64 0, .slice none 0 0, .slice none 0 0, .int .i64 0, .int .i64 0]), 6, 80) := by kernel_rfl
theorem jbElem : ∃ i, Elem 6 JbV.cells 61 39 i (.agg #[.int .i64 0, .int .i64 0, .slice none 0 0, .slice none 0 0, .int .i64 0, .int .i64 0]) 80 := by
  obtain ⟨j0, hj, lj0, lj1, lj2⟩ := info_parts jbInfo
  exact ⟨j0, jb_len, by decide, jb_one, Tryd.underlying39, hj, lj0, lj1, lj2, rfl⟩

/-- A job, but for where its lists lie. -/
def JbV.bare (j : JbV) : JbV := { j with ta := none, tl := 0, tc := 0, aa := none, al := 0, ac := 0 }
/-- How long its lists are. -/
def JbV.fit (j : JbV) : Prop := j.tasks.length = j.tl ∧ j.asked.length = j.al
def jobRow (a : Option Addr) (n c : Nat) (js : List JbV) : Rw := ⟨61, 6, .slice a n c, n, flat JbV.cells js⟩
def taskRow (a : Option Addr) (n c : Nat) (ts : List TkV) : Rw := ⟨154, 8, .slice a n c, n, flat TkV.cells ts⟩
def siteRow (a : Option Addr) (n c : Nat) (zs : List Int) : Rw := ⟨3, 1, .slice a n c, n, flat inCell zs⟩
theorem jobsIn_nil : JobsIn [] [] [] := ⟨rfl, fun i j x e => by simp at e, fun i k x y e => by simp at e, fun i x e => by simp at e⟩
/-- A job more, its two rows put behind the others. -/
theorem JobsIn.push {js : List JbV} {ix : List (Nat × Nat)} {more : List Rw} (h : JobsIn js ix more) (hb : ∀ (i : Nat) (x : Nat × Nat), ix[i]? = some x → x.1 < more.length ∧ x.2 < more.length) (j : JbV) :
    JobsIn (js ++ [j]) (ix ++ [(more.length, more.length + 1)]) (more ++ [taskRow j.ta j.tl j.tc j.tasks, siteRow j.aa j.al j.ac j.asked]) := by
  obtain ⟨h1, h2, h3, h4⟩ := h
  have get : ∀ {α : Type} (l : List α) (y : α) (i : Nat) (x : α), (l ++ [y])[i]? = some x → l[i]? = some x ∨ (i = l.length ∧ x = y) := by
    intro α l y i x e
    by_cases hi : i < l.length
    · rw [List.getElem?_append_left hi] at e; exact Or.inl e
    · rw [List.getElem?_append_right (by omega)] at e
      have hl := (List.getElem?_eq_some_iff.1 e).1
      simp at hl
      have : i - l.length = 0 := by omega
      rw [this] at e
      simp at e
      exact Or.inr ⟨by omega, e.symm⟩
  refine ⟨by simp [h1], fun i j' x ej ex => ?_, fun i k x y ex ey hik => ?_, fun i x ex => ?_⟩
  · rcases get js j i j' ej with ej | ⟨rfl, rfl⟩
    · rcases get ix _ i x ex with ex | ⟨hi, _⟩
      · have hx := hb i x ex
        rw [List.getElem?_append_left hx.1, List.getElem?_append_left hx.2]
        exact h2 i j' x ej ex
      · have := (List.getElem?_eq_some_iff.1 ej).1
        omega
    · rcases get ix _ js.length x ex with ex | ⟨hi, rfl⟩
      · have := (List.getElem?_eq_some_iff.1 ex).1
        omega
      · refine ⟨?_, ?_⟩
        · rw [List.getElem?_append_right (Nat.le_refl _)]; simp [taskRow]
        · rw [List.getElem?_append_right (by omega)]; simp [siteRow]
  · rcases get ix _ i x ex with ex | ⟨rfl, rfl⟩
    · rcases get ix _ k y ey with ey | ⟨rfl, rfl⟩
      · exact h3 i k x y ex ey hik
      · have hx := hb i x ex
        simp only []
        omega
    · rcases get ix _ k y ey with ey | ⟨rfl, rfl⟩
      · have hy := hb k y ey
        simp only []
        omega
      · exact absurd rfl hik
  · rcases get ix _ i x ex with ex | ⟨_, rfl⟩
    · exact h4 i x ex
    · simp only []
      omega
theorem ix_push {ix : List (Nat × Nat)} {more : List Rw} {r s : Rw} (hb : ∀ (i : Nat) (x : Nat × Nat), ix[i]? = some x → x.1 < more.length ∧ x.2 < more.length) : ∀ (i : Nat) (x : Nat × Nat), (ix ++ [(more.length, more.length + 1)])[i]? = some x → x.1 < (more ++ [r, s]).length ∧ x.2 < (more ++ [r, s]).length := by
  intro i x e
  by_cases hi : i < ix.length
  · rw [List.getElem?_append_left hi] at e
    have := hb i x e
    simp
    omega
  · rw [List.getElem?_append_right (by omega)] at e
    have hl := (List.getElem?_eq_some_iff.1 e).1
    simp at hl
    have : i - ix.length = 0 := by omega
    rw [this] at e
    simp at e
    subst e
    simp
/-- A desk of the call's own. -/
structure DeskAt (X : World) (B : Nat) (a : Option Addr) (n c : Nat) (js : List JbV) (ix : List (Nat × Nat)) (more : List Rw) : Prop where
  own : Own X B (jobRow a n c js :: more)
  jobs : JobsIn js ix more
  len : js.length = n
  fit : ∀ j ∈ js, j.fit
  inn : ∀ (i : Nat) (x : Nat × Nat), ix[i]? = some x → x.1 < more.length ∧ x.2 < more.length
theorem deskAt_nil (X : World) (B : Nat) : DeskAt X B none 0 0 [] [] [] := by
  refine ⟨⟨fun i r e => ?_, fun i j r s ei ej hij => ?_⟩, jobsIn_nil, rfl, (fun j hj => by cases hj), fun i x e => by simp at e⟩
  · cases i with
    | zero => simp at e; subst e; exact World.ownsRow_nil _ _ _ _
    | succ i => simp at e
  · cases i with
    | zero => simp at ei; subst ei; exact Or.inl rfl
    | succ i => simp at ei
theorem Own.asideNew {X : World} {B : Nat} {rows : List Rw} {r : Rw} {q : Nat} (h : Own X B (rows ++ [r])) (hq : ∀ (i : Nat) (s : Rw), rows[i]? = some s → s.v.ownBlock ≠ some q) (hr : r.v.ownBlock ≠ some q) : ∀ (i : Nat) (s : Rw), (rows ++ [r])[i]? = some s → s.v.ownBlock ≠ some q := fun i s e => by
  by_cases hi : i < rows.length
  · rw [List.getElem?_append_left hi] at e; exact hq i s e
  · rw [List.getElem?_append_right (by omega)] at e
    have hl := (List.getElem?_eq_some_iff.1 e).1
    simp at hl
    have : i - rows.length = 0 := by omega
    rw [this] at e
    simp at e
    subst e
    exact hr
theorem row_fit {α : Type} [Inhabited α] {k : Nat} {cells : α → List Value} {w : World} {a : Option Addr} {n c : Nat} {xs : List α} (h : IsRow k cells w a n c xs) : xs.length = n := h.1
theorem grownNone {w w' : World} (h : w.grownBy w' none) : Below w.heap.size w w' := (Below.refl w.heap.size w).grown h (Nat.le_refl _) (fun k hk => by cases hk)
theorem bare_at {js : List JbV} {k : Nat} (hk : k < js.length) {js2 : List JbV} {j : JbV} (h : js2.map JbV.bare = (js.take k).map JbV.bare) (hj : j.bare = (js.getD k default).bare) : (js2 ++ [j]).map JbV.bare = (js.take (k + 1)).map JbV.bare := by
  rw [List.take_succ_eq_append_getElem hk, List.map_append, List.map_append, h]
  simp [List.getD, hk] at hj
  simp [hj]

/-- The same desk in memory of its own. -/
def DeskNew (w w' : World) (e : Ending) (next : Int) (jl : Nat) (js : List JbV) : Prop :=
  ∃ (a' : Option Addr) (c' : Nat) (js' : List JbV) (ix : List (Nat × Nat)) (more : List Rw), e = .returned (.agg #[.int .i64 next, .slice a' jl c']) ∧ DeskAt w' w.heap.size a' jl c' js' ix more ∧ js'.map JbV.bare = js.map JbV.bare ∧ Below w.heap.size w w'
end Go.Proofs.YtcfhhjnbkpgpeaaDoor.Co
/- Contracts of slices.IndexFunc and ContainsFunc with any function value that asks about an element; of slices.Index and Contains. -/
namespace Go.Proofs.YtcfhhjnbkpgpeaaDoor.Co
open Go.ChangeShapes Go.WideShapes Go.ChangeAt Go.RowKit
open Go.Proofs.YtcfhhjnbkpgpeaaDoor.St (idxI idxI_hit idxI_none idxI_any idxI_lt IsRow)
set_option linter.unusedVariables false

abbrev IsJobRow := @IsRow JbV _ 6 JbV.cells
/-- A function value that answers a question about an element, and leaves what lay below. -/
def Asks {α : Type} (fn : Nat) (cps : Array Value) (val : α → Value) (p : α → Bool) (w : World) : Prop :=
  Enters Tryd.prog fn ∧ ∀ (x : α) (w' : World), Below w.heap.size w w' → Calls Tryd.prog fn (#[val x] ++ cps) w' fun e w'' => e = .returned (.bool (p x)) ∧ Below w'.heap.size w' w''
theorem Asks.below {α : Type} {fn : Nat} {cps : Array Value} {val : α → Value} {p : α → Bool} {w w' : World} (h : Asks fn cps val p w) (hb : Below w.heap.size w w') : Asks fn cps val p w' :=
  ⟨h.1, fun x u hu => h.2 x u (hb.trans (hu.mono hb.size))⟩

set_option maxHeartbeats 1000000 in
theorem indexJob_any (fn : Nat) (cps : Array Value) (p : JbV → Bool) (a : Option Addr) (len cap : Nat) (xs : List JbV) (w : World) (h : IsJobRow w a len cap xs) (hF : Asks fn cps JbV.val p w) :
    Calls Tryd.prog 75 #[.slice a len cap, .func (.func fn) #[] cps] w fun e w' => e = .returned (.int .i64 (idxI p xs)) ∧ Below w.heap.size w w' := by
  obtain ⟨hlen, hcap, hmax, _, hmem⟩ := h
  obtain ⟨hE, hF⟩ := hF
  unfold Enters at hE
  have HL : Hid (xs.length = len) := hlen
  clear hlen
  unfold maxLen at hmax
  go_enter Tryd.func75, Tryd.ntmps75
  go_wp2
  go_loopw [8] (fun s8 wr => ∃ (k : Nat), k ≤ len ∧ s8 = .int .i64 k ∧ (∀ i, i < k → p (xs.getD i default) = false) ∧ Below w.heap.size w wr) (fun s8 _ => len - (intOf s8).toNat)
  case atStart => exact ⟨0, Nat.zero_le _, rfl, fun i hi => absurd hi (by omega), Below.refl _ _⟩
  case round =>
    obtain ⟨k, hk, rfl, hnot, hb⟩ := hrel
    by_cases hlt : k < len
    · have hlt' : (k : Int) < (len : Int) := by omega
      obtain ⟨b, off, rfl, zb, hc⟩ := hmem (by omega)
      have hcells := hc k hlt
      have hx := hF (xs.getD k default) wr hb
      have hhit := idxI_hit (p := p) (l := xs) (k := k) (by have := HL.out; omega) hnot
      have hnot' : p (xs.getD k default) = false → ∀ i, i < k + 1 → p (xs.getD i default) = false := fun hf i hi => by
        by_cases e : i = k
        · rw [e]; exact hf
        · exact hnot i (by omega)
      obtain ⟨x, ex⟩ : ∃ x, x = xs.getD k default := ⟨_, rfl⟩
      rw [← ex] at hcells hx hhit hnot'
      clear ex
      obtain ⟨jn, st, ta, tl, tc, aa, al, ac, asks, age, tasks, asked⟩ := x
      have a0 := hcells 0 (by decide)
      have a1 := hcells 1 (by decide)
      have a2 := hcells 2 (by decide)
      have a3 := hcells 3 (by decide)
      have a4 := hcells 4 (by decide)
      have a5 := hcells 5 (by decide)
      simp [JbV.cells] at a0 a1 a2 a3 a4 a5
      rw [← hb.cell (p := ⟨b, off + k * 6, none⟩) zb] at a0
      rw [← hb.cell (p := ⟨b, off + k * 6 + 1, none⟩) zb] at a1
      rw [← hb.cell (p := ⟨b, off + k * 6 + 2, none⟩) zb] at a2
      rw [← hb.cell (p := ⟨b, off + k * 6 + 3, none⟩) zb] at a3
      rw [← hb.cell (p := ⟨b, off + k * 6 + 4, none⟩) zb] at a4
      rw [← hb.cell (p := ⟨b, off + k * 6 + 5, none⟩) zb] at a5
      clear hcells hc
      simp only [JbV.val] at hx
      obtain ⟨P, eP⟩ : ∃ P, P = p ⟨jn, st, ta, tl, tc, aa, al, ac, asks, age, tasks, asked⟩ := ⟨_, rfl⟩
      rw [← eP] at hx hhit hnot'
      clear eP
      cases P with
      | true =>
        have hh := hhit rfl
        clear hhit hnot'
        go_wp2_with (go_at_fn fn; refine (hx).mono ?_; rintro e w1 ⟨rfl, hb1⟩)
        go_ret
        exact ⟨by rw [hh]; rfl, hb.trans (hb1.mono hb.size)⟩
      | false =>
        have hh := hnot' rfl
        clear hhit hnot'
        go_wp2_with (go_at_fn fn; refine (hx).mono ?_; rintro e w1 ⟨rfl, hb1⟩)
        go_roundw
        case rel => exact ⟨k + 1, by omega, by go_num, hh, hb.trans (hb1.mono hb.size)⟩
        case measure => simp [intOf]; omega
    · have hfin : idxI p xs = -1 := idxI_none (fun i hi => hnot i (by have := HL.out; omega))
      go_wp2
      go_ret
      exact ⟨by rw [hfin]; rfl, hb⟩

end Go.Proofs.YtcfhhjnbkpgpeaaDoor.Co
