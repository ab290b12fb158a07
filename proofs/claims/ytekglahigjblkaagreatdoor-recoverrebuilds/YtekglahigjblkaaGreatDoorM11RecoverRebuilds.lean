/- Texts of this claim, one behind the other. -/
import Derived.Test.YtekglahigjblkaaGreatDoorM10RecoverRebuilds
import Derived.LoopTactic
import Derived.Deep.RegionLaw
import Derived.Deep.DeepCutAuto
import Derived.Deep.RegionHeld3
import Derived.Shelf.Abstract
import Derived.Test.YtekglahigjblkaaGreatDoorM8RecoverRebuilds
import Derived.Laws.IdiomCopy
import Derived.Lib.SliceRun
/- fresh.Desk: a desk in memory of the call's own: the jobs' row, and the rows of each job's tasks and sites. -/
namespace Go.Proofs.YtekglahigjblkaaGreatDoor.Co
open Go.ChangeShapes Go.WideShapes Go.ChangeAt Go.RowKit
open Go.Proofs.YtekglahigjblkaaGreatDoor.St (BoxN boxn_new own_below grown_setCell IsRow Elem flat flat_append own_isRow)
set_option linter.unusedVariables false

theorem tk_len (x : TkV) : x.cells.length = 8 := rfl
theorem tk_one (y : TkV) : ∀ u ∈ y.cells, u.oneCell' = true := by
  intro u hu
  simp only [TkV.cells, List.mem_cons, List.not_mem_nil, or_false] at hu
  rcases hu with rfl | rfl | rfl | rfl | rfl | rfl | rfl | rfl <;> rfl
theorem tkInfo : (Tryz.prog.info? 99).map (fun i => (i.zero, i.size, i.bytes)) = some (some (.agg #[.bool false, .int .i64 0, .int .i64 0, .int .i64 0, .int .i64 0, .int .i64 0, .bool false, .bool false]), 8, 56) := by kernel_rfl
theorem tkElem : ∃ i, Elem 8 TkV.cells 99 62 i (.agg #[.bool false, .int .i64 0, .int .i64 0, .int .i64 0, .int .i64 0, .int .i64 0, .bool false, .bool false]) 56 := by
  obtain ⟨j0, hj, lj0, lj1, lj2⟩ := info_parts tkInfo
  exact ⟨j0, tk_len, by decide, tk_one, Tryz.underlying62, hj, lj0, lj1, lj2, rfl⟩
theorem in_len (x : Int) : (inCell x).length = 1 := rfl
theorem in_one (y : Int) : ∀ u ∈ inCell y, u.oneCell' = true := by
  intro u hu
  simp only [inCell, List.mem_cons, List.not_mem_nil, or_false] at hu
  rcases hu with rfl
  rfl
theorem inInfo : (Tryz.prog.info? 3).map (fun i => (i.zero, i.size, i.bytes)) = some (some (.int .i64 0), 1, 8) := by kernel_rfl
theorem inElem : ∃ i, Elem 1 inCell 3 52 i (.int .i64 0) 8 := by
  obtain ⟨j0, hj, lj0, lj1, lj2⟩ := info_parts inInfo
  exact ⟨j0, in_len, by decide, in_one, Tryz.underlying52, hj, lj0, lj1, lj2, rfl⟩
theorem jb_len (x : JbV) : x.cells.length = 6 := rfl
theorem jb_one (y : JbV) : ∀ u ∈ y.cells, u.oneCell' = true := by
  intro u hu
  simp only [JbV.cells, List.mem_cons, List.not_mem_nil, or_false] at hu
  rcases hu with rfl | rfl | rfl | rfl | rfl | rfl <;> rfl
theorem jbInfo : (Tryz.prog.info? 64).map (fun i => (i.zero, i.size, i.bytes)) = some (some (.agg #[.int .i64 0, .int .i64 0, .slice none 0 0, .slice none 0 0, .int .i64 0, .int .i64 0]), 6, 80) := by kernel_rfl
theorem jbElem : ∃ i, Elem 6 JbV.cells 64 32 i (.agg #[.int .i64 0, .int .i64 0, .slice none 0 0, .slice none 0 0, .int .i64 0, .int .i64 0]) 80 := by
  obtain ⟨j0, hj, lj0, lj1, lj2⟩ := info_parts jbInfo
  exact ⟨j0, jb_len, by decide, jb_one, Tryz.underlying32, hj, lj0, lj1, lj2, rfl⟩

/-- A job, but for where its lists lie. -/
def JbV.bare (j : JbV) : JbV := { j with ta := none, tl := 0, tc := 0, aa := none, al := 0, ac := 0 }
/-- How long its lists are. -/
def JbV.fit (j : JbV) : Prop := j.tasks.length = j.tl ∧ j.asked.length = j.al
def jobRow (a : Option Addr) (n c : Nat) (js : List JbV) : Rw := ⟨64, 6, .slice a n c, n, flat JbV.cells js⟩
def taskRow (a : Option Addr) (n c : Nat) (ts : List TkV) : Rw := ⟨99, 8, .slice a n c, n, flat TkV.cells ts⟩
def siteRow (a : Option Addr) (n c : Nat) (zs : List Int) : Rw := ⟨3, 1, .slice a n c, n, flat inCell zs⟩
theorem jobsIn_nil : JobsIn [] [] [] := ⟨rfl, fun i j x e => by simp at e, fun i k x y e => by simp at e, fun i x e => by simp at e⟩
/-- A job more, its two rows put behind the others. -/
theorem JobsIn.push {js : List JbV} {ix : List (Nat × Nat)} {more : List Rw} (h : JobsIn js ix more) (hb : ∀ (i : Nat) (x : Nat × Nat), ix[i]? = some x → x.1 < more.length ∧ x.2 < more.length) (j : JbV) :
    JobsIn (js ++ [j]) (ix ++ [(more.length, more.length + 1)]) (more ++ [taskRow j.ta j.tl j.tc j.tasks, siteRow j.aa j.al j.ac j.asked]) := by
  obtain ⟨h1, h2, h3, h4⟩ := h
  have get : ∀ {α : Type} (l : List α) (y : α) (i : Nat) (x : α), (l ++ [y])[i]? = some x → l[i]? = some x ∨ (i = l.length ∧ x = y) := by
    intro α l y i x e
    by_cases hi : i < l.length
    · rw [List.getElem?_append_left hi] at e; exact Or.inl e
    · rw [List.getElem?_append_right (by omega)] at e
      have hl := (List.getElem?_eq_some_iff.1 e).1
      simp at hl
      have : i - l.length = 0 := by omega
      rw [this] at e
      simp at e
      exact Or.inr ⟨by omega, e.symm⟩
  refine ⟨by simp [h1], fun i j' x ej ex => ?_, fun i k x y ex ey hik => ?_, fun i x ex => ?_⟩
  · rcases get js j i j' ej with ej | ⟨rfl, rfl⟩
    · rcases get ix _ i x ex with ex | ⟨hi, _⟩
      · have hx := hb i x ex
        rw [List.getElem?_append_left hx.1, List.getElem?_append_left hx.2]
        exact h2 i j' x ej ex
      · have := (List.getElem?_eq_some_iff.1 ej).1
        omega
    · rcases get ix _ js.length x ex with ex | ⟨hi, rfl⟩
      · have := (List.getElem?_eq_some_iff.1 ex).1
        omega
      · refine ⟨?_, ?_⟩
        · rw [List.getElem?_append_right (Nat.le_refl _)]; simp [taskRow]
        · rw [List.getElem?_append_right (by omega)]; simp [siteRow]
  · rcases get ix _ i x ex with ex | ⟨rfl, rfl⟩
    · rcases get ix _ k y ey with ey | ⟨rfl, rfl⟩
      · exact h3 i k x y ex ey hik
      · have hx := hb i x ex
        simp only []
        omega
    · rcases get ix _ k y ey with ey | ⟨rfl, rfl⟩
      · have hy := hb k y ey
        simp only []
        omega
      · exact absurd rfl hik
  · rcases get ix _ i x ex with ex | ⟨_, rfl⟩
    · exact h4 i x ex
    · simp only []
      omega
theorem ix_push {ix : List (Nat × Nat)} {more : List Rw} {r s : Rw} (hb : ∀ (i : Nat) (x : Nat × Nat), ix[i]? = some x → x.1 < more.length ∧ x.2 < more.length) : ∀ (i : Nat) (x : Nat × Nat), (ix ++ [(more.length, more.length + 1)])[i]? = some x → x.1 < (more ++ [r, s]).length ∧ x.2 < (more ++ [r, s]).length := by
  intro i x e
  by_cases hi : i < ix.length
  · rw [List.getElem?_append_left hi] at e
    have := hb i x e
    simp
    omega
  · rw [List.getElem?_append_right (by omega)] at e
    have hl := (List.getElem?_eq_some_iff.1 e).1
    simp at hl
    have : i - ix.length = 0 := by omega
    rw [this] at e
    simp at e
    subst e
    simp
/-- A desk of the call's own. -/
structure DeskAt (X : World) (B : Nat) (a : Option Addr) (n c : Nat) (js : List JbV) (ix : List (Nat × Nat)) (more : List Rw) : Prop where
  own : Own X B (jobRow a n c js :: more)
  jobs : JobsIn js ix more
  len : js.length = n
  fit : ∀ j ∈ js, j.fit
  inn : ∀ (i : Nat) (x : Nat × Nat), ix[i]? = some x → x.1 < more.length ∧ x.2 < more.length
theorem deskAt_nil (X : World) (B : Nat) : DeskAt X B none 0 0 [] [] [] := by
  refine ⟨⟨fun i r e => ?_, fun i j r s ei ej hij => ?_⟩, jobsIn_nil, rfl, (fun j hj => by cases hj), fun i x e => by simp at e⟩
  · cases i with
    | zero => simp at e; subst e; exact World.ownsRow_nil _ _ _ _
    | succ i => simp at e
  · cases i with
    | zero => simp at ei; subst ei; exact Or.inl rfl
    | succ i => simp at ei
theorem Own.asideNew {X : World} {B : Nat} {rows : List Rw} {r : Rw} {q : Nat} (h : Own X B (rows ++ [r])) (hq : ∀ (i : Nat) (s : Rw), rows[i]? = some s → s.v.ownBlock ≠ some q) (hr : r.v.ownBlock ≠ some q) : ∀ (i : Nat) (s : Rw), (rows ++ [r])[i]? = some s → s.v.ownBlock ≠ some q := fun i s e => by
  by_cases hi : i < rows.length
  · rw [List.getElem?_append_left hi] at e; exact hq i s e
  · rw [List.getElem?_append_right (by omega)] at e
    have hl := (List.getElem?_eq_some_iff.1 e).1
    simp at hl
    have : i - rows.length = 0 := by omega
    rw [this] at e
    simp at e
    subst e
    exact hr
theorem row_fit {α : Type} [Inhabited α] {k : Nat} {cells : α → List Value} {w : World} {a : Option Addr} {n c : Nat} {xs : List α} (h : IsRow k cells w a n c xs) : xs.length = n := h.1
theorem grownNone {w w' : World} (h : w.grownBy w' none) : Below w.heap.size w w' := (Below.refl w.heap.size w).grown h (Nat.le_refl _) (fun k hk => by cases hk)
theorem bare_at {js : List JbV} {k : Nat} (hk : k < js.length) {js2 : List JbV} {j : JbV} (h : js2.map JbV.bare = (js.take k).map JbV.bare) (hj : j.bare = (js.getD k default).bare) : (js2 ++ [j]).map JbV.bare = (js.take (k + 1)).map JbV.bare := by
  rw [List.take_succ_eq_append_getElem hk, List.map_append, List.map_append, h]
  simp [List.getD, hk] at hj
  simp [hj]

/-- The same desk in memory of its own. -/
def DeskNew (w w' : World) (e : Ending) (next : Int) (jl : Nat) (js : List JbV) : Prop :=
  ∃ (a' : Option Addr) (c' : Nat) (js' : List JbV) (ix : List (Nat × Nat)) (more : List Rw), e = .returned (.agg #[.int .i64 next, .slice a' jl c']) ∧ DeskAt w' w.heap.size a' jl c' js' ix more ∧ js'.map JbV.bare = js.map JbV.bare ∧ Below w.heap.size w w'
end Go.Proofs.YtekglahigjblkaaGreatDoor.Co
/- Contracts of slices.IndexFunc and ContainsFunc with any function value that asks about an element; of slices.Index and Contains. -/
namespace Go.Proofs.YtekglahigjblkaaGreatDoor.Co
open Go.ChangeShapes Go.WideShapes Go.ChangeAt Go.RowKit
open Go.Proofs.YtekglahigjblkaaGreatDoor.St (idxI idxI_hit idxI_none idxI_any idxI_lt IsRow)
set_option linter.unusedVariables false

abbrev IsJobRow := @IsRow JbV _ 6 JbV.cells
/-- A function value that answers a question about an element, and leaves what lay below. -/
def Asks {α : Type} (fn : Nat) (cps : Array Value) (val : α → Value) (p : α → Bool) (w : World) : Prop :=
  Enters Tryz.prog fn ∧ ∀ (x : α) (w' : World), Below w.heap.size w w' → Calls Tryz.prog fn (#[val x] ++ cps) w' fun e w'' => e = .returned (.bool (p x)) ∧ Below w'.heap.size w' w''
theorem Asks.below {α : Type} {fn : Nat} {cps : Array Value} {val : α → Value} {p : α → Bool} {w w' : World} (h : Asks fn cps val p w) (hb : Below w.heap.size w w') : Asks fn cps val p w' :=
  ⟨h.1, fun x u hu => h.2 x u (hb.trans (hu.mono hb.size))⟩

set_option maxHeartbeats 1000000 in
theorem indexJob_any (fn : Nat) (cps : Array Value) (p : JbV → Bool) (a : Option Addr) (len cap : Nat) (xs : List JbV) (w : World) (h : IsJobRow w a len cap xs) (hF : Asks fn cps JbV.val p w) :
    Calls Tryz.prog 52 #[.slice a len cap, .func (.func fn) #[] cps] w fun e w' => e = .returned (.int .i64 (idxI p xs)) ∧ Below w.heap.size w w' := by
  obtain ⟨hlen, hcap, hmax, _, hmem⟩ := h
  obtain ⟨hE, hF⟩ := hF
  unfold Enters at hE
  have HL : Hid (xs.length = len) := hlen
  clear hlen
  unfold maxLen at hmax
  go_enter Tryz.func52, Tryz.ntmps52
  go_wp2
  go_loopw [8] (fun s8 wr => ∃ (k : Nat), k ≤ len ∧ s8 = .int .i64 k ∧ (∀ i, i < k → p (xs.getD i default) = false) ∧ Below w.heap.size w wr) (fun s8 _ => len - (intOf s8).toNat)
  case atStart => exact ⟨0, Nat.zero_le _, rfl, fun i hi => absurd hi (by omega), Below.refl _ _⟩
  case round =>
    obtain ⟨k, hk, rfl, hnot, hb⟩ := hrel
    by_cases hlt : k < len
    · have hlt' : (k : Int) < (len : Int) := by omega
      obtain ⟨b, off, rfl, zb, hc⟩ := hmem (by omega)
      have hcells := hc k hlt
      have hx := hF (xs.getD k default) wr hb
      have hhit := idxI_hit (p := p) (l := xs) (k := k) (by have := HL.out; omega) hnot
      have hnot' : p (xs.getD k default) = false → ∀ i, i < k + 1 → p (xs.getD i default) = false := fun hf i hi => by
        by_cases e : i = k
        · rw [e]; exact hf
        · exact hnot i (by omega)
      obtain ⟨x, ex⟩ : ∃ x, x = xs.getD k default := ⟨_, rfl⟩
      rw [← ex] at hcells hx hhit hnot'
      clear ex
      obtain ⟨jn, st, ta, tl, tc, aa, al, ac, asks, age, tasks, asked⟩ := x
      have a0 := hcells 0 (by decide)
      have a1 := hcells 1 (by decide)
      have a2 := hcells 2 (by decide)
      have a3 := hcells 3 (by decide)
      have a4 := hcells 4 (by decide)
      have a5 := hcells 5 (by decide)
      simp [JbV.cells] at a0 a1 a2 a3 a4 a5
      rw [← hb.cell (p := ⟨b, off + k * 6, none⟩) zb] at a0
      rw [← hb.cell (p := ⟨b, off + k * 6 + 1, none⟩) zb] at a1
      rw [← hb.cell (p := ⟨b, off + k * 6 + 2, none⟩) zb] at a2
      rw [← hb.cell (p := ⟨b, off + k * 6 + 3, none⟩) zb] at a3
      rw [← hb.cell (p := ⟨b, off + k * 6 + 4, none⟩) zb] at a4
      rw [← hb.cell (p := ⟨b, off + k * 6 + 5, none⟩) zb] at a5
      clear hcells hc
      simp only [JbV.val] at hx
      obtain ⟨P, eP⟩ : ∃ P, P = p ⟨jn, st, ta, tl, tc, aa, al, ac, asks, age, tasks, asked⟩ := ⟨_, rfl⟩
      rw [← eP] at hx hhit hnot'
      clear eP
      cases P with
      | true =>
        have hh := hhit rfl
        clear hhit hnot'
        go_wp2_with (go_at_fn fn; refine (hx).mono ?_; rintro e w1 ⟨rfl, hb1⟩)
        go_ret
        exact ⟨by rw [hh]; rfl, hb.trans (hb1.mono hb.size)⟩
      | false =>
        have hh := hnot' rfl
        clear hhit hnot'
        go_wp2_with (go_at_fn fn; refine (hx).mono ?_; rintro e w1 ⟨rfl, hb1⟩)
        go_roundw
        case rel => exact ⟨k + 1, by omega, by go_num, hh, hb.trans (hb1.mono hb.size)⟩
        case measure => simp [intOf]; omega
    · have hfin : idxI p xs = -1 := idxI_none (fun i hi => hnot i (by have := HL.out; omega))
      go_wp2
      go_ret
      exact ⟨by rw [hfin]; rfl, hb⟩

end Go.Proofs.YtekglahigjblkaaGreatDoor.Co
/- The contracts of slices.DeleteFunc at locks and doubts: of a row of the caller's own, what is meant taken out, in its place. -/
namespace Go.Proofs.YtekglahigjblkaaGreatDoor.Co
open Go.ChangeShapes Go.WideShapes Go.ChangeAt Go.RowKit
open Go.Proofs.YtekglahigjblkaaGreatDoor.St
set_option linter.unusedVariables false

/-- A function value that answers a question about an element, whatever became of that one block. -/
def AsksG {α : Type} (fn : Nat) (cps : Array Value) (val : α → Value) (p : α → Bool) (row : Option Nat) (w : World) : Prop :=
  Enters Tryz.prog fn ∧ ∀ (x : α) (w' : World), w.grownBy w' row → Calls Tryz.prog fn (#[val x] ++ cps) w' fun e w'' => e = .returned (.bool (p x)) ∧ Below w'.heap.size w' w''
theorem AsksG.asks {α : Type} {fn : Nat} {cps : Array Value} {val : α → Value} {p : α → Bool} {row : Option Nat} {w : World} (h : AsksG fn cps val p row w) : Asks fn cps val p w :=
  ⟨h.1, fun x u hu => h.2 x u (grown_below hu row)⟩
theorem mem_zeroCells {z : Array Value} {n : Nat} {v : Value} (h : v ∈ (Builtin.zeroCells z n).toList) : v ∈ z.toList := by
  simp only [Builtin.zeroCells, Array.toList_map, List.mem_map, Array.toList_range, List.mem_range] at h
  obtain ⟨i, hi, rfl⟩ := h
  have hz : 0 < z.size := by
    rcases Nat.eq_zero_or_pos z.size with e | e
    · rw [e] at hi; simp at hi
    · exact e
  have hm : i % z.size < z.size := Nat.mod_lt _ hz
  rw [getElem!_pos z _ hm]
  simp
theorem setL_pre (xs vs : List Value) (o : Nat) (h : o + vs.length ≤ xs.length) : (setL xs o vs).take o = xs.take o := by
  rw [setL_eq _ _ _ h, List.append_assoc, List.take_append_of_le_length (by rw [List.length_take]; omega), List.take_take, Nat.min_self]
def keep {α : Type} (p : α → Bool) (xs : List α) : List α := xs.filter (fun x => !(p x))
theorem keep_all {α : Type} [Inhabited α] {p : α → Bool} {xs : List α} (h : idxI p xs = -1) : keep p xs = xs := by
  unfold keep
  rw [List.filter_eq_self]
  intro x hx
  have : xs.any p = false := by rw [← idxI_any, h]; rfl
  have := List.any_eq_false.1 this x hx
  simpa using this
theorem keep_at {α : Type} [Inhabited α] {p : α → Bool} {xs : List α} {j : Nat} (hj : j < xs.length) : keep p (xs.take (j + 1)) = keep p (xs.take j) ++ (if p (xs.getD j default) then [] else [xs.getD j default]) := by
  unfold keep
  rw [take_at hj, List.filter_append]
  congr 1
  generalize xs.getD j default = x
  cases h : p x <;> simp [h]
theorem keep_idx {α : Type} [Inhabited α] {p : α → Bool} {xs : List α} {i : Nat} (h : idxI p xs = (i : Int)) : i < xs.length ∧ keep p (xs.take (i + 1)) = xs.take i := by
  unfold idxI at h
  cases e : xs.findIdx? p with
  | none => rw [e] at h; simp at h
  | some k =>
    rw [e] at h
    simp at h
    obtain rfl : k = i := by omega
    rw [List.findIdx?_eq_some_iff_getElem] at e
    obtain ⟨hk, hp, hn⟩ := e
    refine ⟨hk, ?_⟩
    rw [keep_at hk]
    have : p (xs.getD k default) = true := by simpa [List.getD, hk] using hp
    rw [this]
    simp only [↓reduceIte, List.append_nil]
    unfold keep
    rw [List.filter_eq_self]
    intro x hx
    obtain ⟨q, hq, rfl⟩ := List.getElem_of_mem hx
    simp only [List.length_take] at hq
    have := hn q (by omega)
    simpa using this

theorem run_clear_job (w : World) (ty : TypeId) (b o m c : Nat) (h0 : 0 < m) (hc : ∀ j, j < m * 6 → (w.cell? ⟨b, o + j, none⟩).isSome = true ∧ w.frozen? ⟨b, o + j, none⟩ = false) :
    (Builtin.zeroCells (Value.cells (.agg #[.int .i64 0, .int .i64 0, .slice none 0 0, .slice none 0 0, .int .i64 0, .int .i64 0])) m).toList.length = m * 6 ∧ (Builtin.clear_ #[32] ty #[.slice (some ⟨b, o, none⟩) m c]).run Tryz.prog w = .ok (.tuple #[]) (w.setCells b o (Builtin.zeroCells (Value.cells (.agg #[.int .i64 0, .int .i64 0, .slice none 0 0, .slice none 0 0, .int .i64 0, .int .i64 0])) m).toList) := by
  have hv : ∀ w, (zeroValue 64).run Tryz.prog w = .ok (.agg #[.int .i64 0, .int .i64 0, .slice none 0 0, .slice none 0 0, .int .i64 0, .int .i64 0]) w := fun w => by
    exact Tryz.zeroValue64 w
  have hl : (Builtin.zeroCells (Value.cells (.agg #[.int .i64 0, .int .i64 0, .slice none 0 0, .slice none 0 0, .int .i64 0, .int .i64 0])) m).toList.length = m * 6 := by
    rw [Array.length_toList, size_zeroCells]
    rfl
  refine ⟨hl, ?_⟩
  have hst := run_storeCells_cells (P := Tryz.prog) b o (Builtin.zeroCells (Value.cells (.agg #[.int .i64 0, .int .i64 0, .slice none 0 0, .slice none 0 0, .int .i64 0, .int .i64 0])) m).toList 0 w (fun j hj => (hc j (by rw [hl] at hj; exact hj)).1) (fun j hj => (hc j (by rw [hl] at hj; exact hj)).2) (by
    intro v hv'
    have := mem_zeroCells hv'
    simp [Value.cells] at this
    rcases this with h | h | h <;> subst h <;> rfl)
  simp only [Nat.add_zero] at hst
  obtain ⟨q, rfl⟩ : ∃ q, m = q + 1 := ⟨m - 1, by omega⟩
  simp [Builtin.clear_, run_underlying Tryz.underlying32, hv, hst]


set_option maxRecDepth 100000 in
set_option maxHeartbeats 4000000 in
theorem deleteJob_any (fn : Nat) (cps : Array Value) (p : JbV → Bool) (B : Nat) (a : Option Addr) (n cap : Nat) (xs : List JbV) (w : World) (h : w.ownsRow B 64 6 (.slice a n cap) n (flat JbV.cells xs)) (hF : AsksG fn cps JbV.val p (Value.slice a n cap).ownBlock w) :
    Calls Tryz.prog 30 #[.slice a n cap, .func (.func fn) #[] cps] w fun e w' => e = .returned (.slice a (keep p xs).length cap) ∧ w'.ownsRow B 64 6 (.slice a (keep p xs).length cap) (keep p xs).length (flat JbV.cells (keep p xs)) ∧ w.grownBy w' (Value.slice a n cap).ownBlock := by
  have hl := own_len jb_len (by decide) h
  obtain ⟨hrow, _⟩ := own_isRow jb_len h hl
  have hIx := fun w' h1 h2 => indexJob_any fn cps p a n cap xs w' h1 h2
  obtain ⟨i0, e0⟩ : ∃ R, R = idxI p xs := ⟨_, rfl⟩
  have hi0 := idxI_lt (p := p) (l := xs)
  rw [← e0] at hIx hi0
  by_cases hneg : i0 = -1
  · have hk := keep_all (p := p) (xs := xs) (by rw [← e0]; exact hneg)
    rw [hk, hl]
    subst hneg
    clear e0 hk
    have hA := hF.asks
    go_enter Tryz.func30, Tryz.ntmps30
    go_wp2_with (go_at_call 52; refine (hIx _ hrow hA).mono ?_; rintro e w1 ⟨rfl, hb1⟩)
    go_ret
    exact ⟨rfl, own_below h hb1, grown_below hb1 _⟩
  · obtain ⟨i1, rfl⟩ : ∃ i1 : Nat, i0 = (i1 : Int) := ⟨i0.toNat, by omega⟩
    obtain ⟨hi1, hk1⟩ := keep_idx (p := p) (xs := xs) e0.symm
    clear e0 hneg hi0
    rw [hl] at hi1
    obtain ⟨g, off, rfl, _, _⟩ := hrow.2.2.2.2 (by omega)
    have hoff : off = 0 := by
      rcases h.2 with ⟨hv, _⟩ | ⟨g', cap', cur, hv, _⟩
      · simp at hv
      · simp at hv; exact hv.1.2
    subst hoff
    have hcm : n ≤ cap ∧ cap ≤ maxLen := ⟨hrow.2.1, hrow.2.2.1⟩
    unfold maxLen at hcm
    have HK1 : Hid (keep p (xs.take (i1 + 1)) = xs.take i1) := hk1
    have HL : Hid (xs.length = n) := hl
    have hA := hF.asks
    obtain ⟨hEn, hFg⟩ := hF
    have HFG : Hid (∀ (x : JbV) (w' : World), w.grownBy w' (some g) → Calls Tryz.prog fn (#[JbV.val x] ++ cps) w' fun e w'' => e = .returned (.bool (p x)) ∧ Below w'.heap.size w' w'') := hFg
    unfold Enters at hEn
    clear hl hk1 hFg
    have hgl := h.lt g rfl
    obtain ⟨YS, eYS⟩ : ∃ YS, YS = keep p xs := ⟨_, rfl⟩
    have HYS : Hid (YS = keep p (xs.take n)) := by show _ = _; rw [eYS, List.take_of_length_le (by rw [HL.out]; exact Nat.le_refl _)]
    rw [← eYS]
    clear eYS
    have hm1 : ((i1 : Int) == -1) = false := by rw [beq_eq_false_iff_ne]; omega
    go_enter Tryz.func30, Tryz.ntmps30
    go_upto_region 5 with (go_at_call 52; refine (hIx _ hrow hA).mono ?_; rintro e w1 ⟨rfl, hb1⟩)
    have hg1 : w.grownBy w1 (some g) := grown_below hb1 _
    have own1 := own_below h hb1
    clear hA hIx hrow
    go_loopw [5, 6, 7] (fun s5 s6 _ wr => ∃ (i j : Nat) (L : List JbV), s5 = .int .i64 (i : Int) ∧ s6 = .int .i64 (j : Int) ∧ i < j ∧ j ≤ n ∧ wr.ownsRow B 64 6 (.slice (some ⟨g, 0, none⟩) n cap) n (flat JbV.cells L) ∧ Hid (L.take i = keep p (xs.take j)) ∧ Hid (L.drop j = xs.drop j) ∧ w.grownBy wr (some g)) (fun _ s6 _ _ => n - (intOf s6).toNat)
    case atStart => exact ⟨i1, i1 + 1, xs, rfl, by go_num, by omega, by omega, own1, HK1.out.symm, rfl, hg1⟩
    case round =>
      obtain ⟨i, j, L, rfl, rfl, hij, hjn, hown, hTk, hDr, hgr⟩ := hrel
      have hLl := own_len jb_len (by decide) hown
      have HLL : Hid (L.length = n) := hLl
      clear hLl
      by_cases hlt : j < n
      · have hlt' : (j : Int) < (n : Int) := by omega
        have HX : Hid (L.getD j default = xs.getD j default) := by
          show _ = _
          have h1 : j < L.length := by rw [HLL.out]; exact hlt
          have h2 : j < xs.length := by rw [HL.out]; exact hlt
          have h3 := hDr.out
          rw [drop_at h1, drop_at h2] at h3
          simp at h3
          simpa [List.getD] using h3.1
        have HD1 : Hid (L.drop (j + 1) = xs.drop (j + 1)) := by
          show _ = _
          have h3 := congrArg (List.drop 1) hDr.out
          simpa [List.drop_drop] using h3
        have HKA : Hid (keep p (xs.take (j + 1)) = L.take i ++ (if p (xs.getD j default) then [] else [xs.getD j default])) := by show _ = _; rw [hTk.out]; exact keep_at (by rw [HL.out]; exact hlt)
        obtain ⟨hrw, _⟩ := own_isRow jb_len hown HLL.out
        obtain ⟨b', off', e', zb, hc⟩ := hrw.2.2.2.2 (by omega)
        simp at e'
        obtain ⟨rfl, rfl⟩ := e'
        have hcells := hc j hlt
        rw [HX.out] at hcells
        have hcall := HFG.out (xs.getD j default)
        obtain ⟨x, ex⟩ : ∃ x, x = xs.getD j default := ⟨_, rfl⟩
        rw [← ex] at hcells HKA hcall
        clear ex hc hrw
        obtain ⟨q0, q1, ta, tl, tc, aa, al, ac, q4, q5, tasks, asked⟩ := x
        have a0 := hcells 0 (by decide)
        have a1 := hcells 1 (by decide)
        have a2 := hcells 2 (by decide)
        have a3 := hcells 3 (by decide)
        have a4 := hcells 4 (by decide)
        have a5 := hcells 5 (by decide)
        simp only [JbV.cells, List.getElem?_cons_zero, List.getElem?_cons_succ, Nat.add_zero, Nat.zero_add] at a0 a1 a2 a3 a4 a5
        clear hcells
        simp only [JbV.val] at hcall
        obtain ⟨P, eP⟩ : ∃ P, P = p ⟨q0, q1, ta, tl, tc, aa, al, ac, q4, q5, tasks, asked⟩ := ⟨_, rfl⟩
        rw [← eP] at HKA hcall
        clear eP
        obtain ⟨V0, hV0⟩ : ∃ V0 : World, V0 = wr.alloc (.cells #[.int .i64 q0, .int .i64 q1, .slice ta tl tc, .slice aa al ac, .int .i64 q4, .int .i64 q5] 64) := ⟨_, rfl⟩
        have bV0 : Below wr.heap.size wr V0 := by rw [hV0]; exact (Below.refl _ _).alloc (Nat.le_refl _) _
        have bx := boxn_new wr #[.int .i64 q0, .int .i64 q1, .slice ta tl tc, .slice aa al ac, .int .i64 q4, .int .i64 q5] 64 6 rfl
        rw [← hV0] at bx
        have hgV0 : w.grownBy V0 (some g) := grown_trans hgr (grown_below bV0 _)
        go_upto_region 8 with (fail)
        rw [← hV0]
        clear hV0 a0 a1 a2 a3 a4 a5
        have b0 := (bx.c 0 (by decide)).1
        have b1 := (bx.c 1 (by decide)).1
        have b2 := (bx.c 2 (by decide)).1
        have b3 := (bx.c 3 (by decide)).1
        have b4 := (bx.c 4 (by decide)).1
        have b5 := (bx.c 5 (by decide)).1
        simp only [List.getD_cons_zero, List.getD_cons_succ] at b0 b1 b2 b3 b4 b5
        have bxl := bx.lt
        have hgw : g < wr.heap.size := (hown.lt g rfl).2
        cases P with
        | true =>
          have HKB : Hid (L.take i = keep p (xs.take (j + 1))) := by show _ = _; rw [HKA.out]; simp
          go_wp2_with (go_at_fn fn; refine (hcall _ hgV0).mono ?_; rintro e V ⟨rfl, hbV⟩)
          go_roundw
          case rel => exact ⟨i, j + 1, L, rfl, by go_num, by omega, by omega, own_below (own_below hown bV0) hbV, HKB, HD1, grown_trans hgV0 (grown_below hbV _)⟩
          case measure => simp [intOf]; omega
        | false =>
          have HKB : Hid ((L.set i ⟨q0, q1, ta, tl, tc, aa, al, ac, q4, q5, tasks, asked⟩).take (i + 1) = keep p (xs.take (j + 1))) := by
            show _ = _
            have h1 : i < L.length := by rw [HLL.out]; omega
            rw [HKA.out, List.take_succ_eq_append_getElem (by simpa using h1), List.take_set_of_le (Nat.le_refl _)]
            simp
          have HDB : Hid ((L.set i ⟨q0, q1, ta, tl, tc, aa, al, ac, q4, q5, tasks, asked⟩).drop (j + 1) = xs.drop (j + 1)) := by
            show _ = _
            rw [List.drop_set_of_lt (by omega)]
            exact HD1.out
          go_upto_region 9 with (go_at_fn fn; refine (hcall _ hgV0).mono ?_; rintro e V ⟨rfl, hbV⟩)
          have ownV := own_below (own_below hown bV0) hbV
          have bxV := bx.below hbV bx.lt
          clear b0 b1 b2 b3 b4 b5 bxl
          have b0 := (bxV.c 0 (by decide)).1
          have b1 := (bxV.c 1 (by decide)).1
          have b2 := (bxV.c 2 (by decide)).1
          have b3 := (bxV.c 3 (by decide)).1
          have b4 := (bxV.c 4 (by decide)).1
          have b5 := (bxV.c 5 (by decide)).1
          simp only [List.getD_cons_zero, List.getD_cons_succ] at b0 b1 b2 b3 b4 b5
          have bxl := bxV.lt
          have hgV : w.grownBy V (some g) := grown_trans hgV0 (grown_below hbV _)
          have hin : (i : Int) < (n : Int) := by omega
          have hth : ∀ q, q < 6 → (V.cell? ⟨g, i * 6 + q, none⟩).isSome = true ∧ V.frozen? ⟨g, i * 6 + q, none⟩ = false := fun q hq => own_there ownV (by omega)
          obtain ⟨u0, e0⟩ := Option.isSome_iff_exists.1 (hth 0 (by decide)).1
          have z0 := (hth 0 (by decide)).2
          obtain ⟨u1, e1⟩ := Option.isSome_iff_exists.1 (hth 1 (by decide)).1
          have z1 := (hth 1 (by decide)).2
          obtain ⟨u2, e2⟩ := Option.isSome_iff_exists.1 (hth 2 (by decide)).1
          have z2 := (hth 2 (by decide)).2
          obtain ⟨u3, e3⟩ := Option.isSome_iff_exists.1 (hth 3 (by decide)).1
          have z3 := (hth 3 (by decide)).2
          obtain ⟨u4, e4⟩ := Option.isSome_iff_exists.1 (hth 4 (by decide)).1
          have z4 := (hth 4 (by decide)).2
          obtain ⟨u5, e5⟩ := Option.isSome_iff_exists.1 (hth 5 (by decide)).1
          have z5 := (hth 5 (by decide)).2
          simp only [Nat.add_zero] at e0 z0
          clear hth
          have own2 := own_setCells (JbV.cells ⟨q0, q1, ta, tl, tc, aa, al, ac, q4, q5, tasks, asked⟩) (i * 6) V _ ownV (by rw [jb_len]; omega)
          rw [flat_setL jb_len _ _ (by rw [HLL.out]; omega)] at own2
          have gr2 := grown_setCells g (JbV.cells ⟨q0, q1, ta, tl, tc, aa, al, ac, q4, q5, tasks, asked⟩) (i * 6) V
          obtain ⟨U, hU⟩ : ∃ U : World, U = ((((((V.setCell ⟨g, i * 6, none⟩ (.int .i64 q0)).setCell ⟨g, i * 6 + 1, none⟩ (.int .i64 q1)).setCell ⟨g, i * 6 + 2, none⟩ (.slice ta tl tc)).setCell ⟨g, i * 6 + 3, none⟩ (.slice aa al ac)).setCell ⟨g, i * 6 + 4, none⟩ (.int .i64 q4)).setCell ⟨g, i * 6 + 5, none⟩ (.int .i64 q5)) := ⟨_, rfl⟩
          have own3 : U.ownsRow B 64 6 (.slice (some ⟨g, 0, none⟩) n cap) n (flat JbV.cells (L.set i ⟨q0, q1, ta, tl, tc, aa, al, ac, q4, q5, tasks, asked⟩)) := by rw [hU]; exact own2
          have gr3 : w.grownBy U (some g) := by rw [hU]; exact grown_trans hgV gr2
          clear own2 gr2
          go_upto_region 10 with (fail)
          rw [← hU]
          clear hU
          go_wp2
          go_roundw
          case rel => exact ⟨i + 1, j + 1, L.set i ⟨q0, q1, ta, tl, tc, aa, al, ac, q4, q5, tasks, asked⟩, by go_num, by go_num, by omega, by omega, own3, HKB, HDB, gr3⟩
          case measure => simp [intOf]; omega
      · obtain rfl : n = j := by omega
        have HYL : Hid (YS.length = i ∧ YS = L.take i) := by
          have h1 : YS = L.take i := by rw [HYS.out, hTk.out]
          refine ⟨?_, h1⟩
          rw [h1, List.length_take, HLL.out]
          omega
        have hcq : ∀ q, q < (n - i) * 6 → (wr.cell? ⟨g, i * 6 + q, none⟩).isSome = true ∧ wr.frozen? ⟨g, i * 6 + q, none⟩ = false := fun q hq => own_there hown (by rw [Nat.sub_mul] at hq; omega)
        have hcl := fun ty c => (run_clear_job wr ty g (i * 6) (n - i) c (by omega) hcq).2
        have HVL : Hid ((Builtin.zeroCells (Value.cells (.agg #[.int .i64 0, .int .i64 0, .slice none 0 0, .slice none 0 0, .int .i64 0, .int .i64 0])) (n - i)).toList.length = (n - i) * 6) := (run_clear_job wr 0 g (i * 6) (n - i) 0 (by omega) hcq).1
        obtain ⟨vs, evs⟩ : ∃ vs, vs = (Builtin.zeroCells (Value.cells (.agg #[.int .i64 0, .int .i64 0, .slice none 0 0, .slice none 0 0, .int .i64 0, .int .i64 0])) (n - i)).toList := ⟨_, rfl⟩
        rw [← evs] at HVL
        simp only [← evs] at hcl
        clear evs hcq
        have hic : i ≤ cap := by omega
        have hin : i ≤ n := by omega
        have hne : ¬ cap = i := by omega
        have hin' : (i : Int) ≤ (n : Int) := by omega
        have hnc : n ≤ cap := by omega
        have HFIN : Hid ((wr.setCells g (i * 6) vs).ownsRow B 64 6 (.slice (some ⟨g, 0, none⟩) i cap) i (flat JbV.cells (L.take i)) ∧ w.grownBy (wr.setCells g (i * 6) vs) (some g)) := by
          have hX : (flat JbV.cells L).length = n * 6 := by rw [flat_len jb_len, HLL.out]
          have hfit : i * 6 + vs.length ≤ n * 6 := by rw [HVL.out, ← Nat.add_mul]; exact Nat.mul_le_mul_right _ (by omega)
          have o1 := own_prefix (own_setCells vs (i * 6) wr _ hown hfit) (k := i) (by omega) (by omega)
          rw [setL_pre _ _ _ (by rw [hX]; exact hfit), flat_take jb_len] at o1
          exact ⟨o1, grown_trans hgr (grown_setCells g vs (i * 6) wr)⟩
        go_wp2
        go_ret
        obtain ⟨y1, y2⟩ := HYL.out
        rw [y1, y2]
        exact ⟨rfl, HFIN.out.1, HFIN.out.2⟩

end Go.Proofs.YtekglahigjblkaaGreatDoor.Co
