/- Texts of this claim, one behind the other. -/
import Derived.Test.YtekglahigjblkaaGreatDoorM9RecoverRebuilds
import Derived.Test.YtekglahigjblkaaGreatDoorM11RecoverRebuilds
import Derived.Deep.RegionLaw
import Derived.Lib.Overlaps
import Derived.Lib.AppendZerosOnto
import Derived.Lib.SliceRun
import Derived.Laws.IdiomCopy
import Derived.Laws.Externs
import Derived.Test.YtekglahigjblkaaGreatDoorM8RecoverRebuilds
/- The contract of slices.Insert at items: one item into a row of the caller's own. -/
namespace Go.Proofs.YtekglahigjblkaaGreatDoor.Co
open Go.ChangeShapes Go.WideShapes Go.ChangeAt Go.RowKit
open Go.Proofs.YtekglahigjblkaaGreatDoor.St
set_option linter.unusedVariables false

theorem run_copy_jobs (w : World) (ty : TypeId) (b o dLen dCap : Nat) (a : Addr) (sLen sCap : Nat) (cs : List Value) (q : Nat) (hq : Nat.min sLen dLen = q) (hn : cs.length = q * 6)
    (hsrc : ∀ j v, cs[j]? = some v → w.cell? (a.add j) = some v) (hc : ∀ j, j < cs.length → (w.cell? ⟨b, o + j, none⟩).isSome = true) (hf : ∀ j, j < cs.length → w.frozen? ⟨b, o + j, none⟩ = false) (h1 : ∀ v ∈ cs, v.oneCell' = true) :
    (Builtin.copy_ #[32, 32] ty #[.slice (some ⟨b, o, none⟩) dLen dCap, .slice (some a) sLen sCap]).run Tryz.prog w = .ok (goInt q) (w.setCells b o cs) := by
  obtain ⟨i, hi, _, hs, _⟩ := info_parts jbInfo
  have hl := run_loadCells_list (P := Tryz.prog) w a cs hsrc
  have hst := run_storeCells_cells (P := Tryz.prog) b o cs 0 w (by simpa using hc) (by simpa using hf) h1
  rw [hn] at hl
  simp only [Nat.add_zero] at hst
  simp [Builtin.copy_, run_underlying Tryz.underlying32, Builtin.lenOf, Builtin.firstCells, sizeOf, typeInfo, hi, hs, hq, hl, hst]
theorem put_inJ {xs : List JbV} {n i : Nat} (x : JbV) (ys : List Value) (hl : xs.length = n) (hi : i ≤ n) (hy : ys.length = (n + 1) * 6) (ht : ys.take (i * 6) = flat JbV.cells (xs.take i)) : setL (setL ys ((i + 1) * 6) (flat JbV.cells (xs.drop i))) (i * 6) (JbV.cells x) = flat JbV.cells (xs.take i ++ x :: xs.drop i) := by
  have hd : (flat JbV.cells (xs.drop i)).length = (n - i) * 6 := by rw [flat_len jb_len]; simp [hl]
  have hx : (JbV.cells x).length = 6 := rfl
  have e1 : setL ys ((i + 1) * 6) (flat JbV.cells (xs.drop i)) = ys.take ((i + 1) * 6) ++ flat JbV.cells (xs.drop i) := by
    have hdn : ys.drop ((i + 1) * 6 + (flat JbV.cells (xs.drop i)).length) = [] := List.drop_eq_nil_of_le (by rw [hd, hy]; omega)
    rw [setL_eq _ _ _ (by rw [hd, hy]; omega), hdn, List.append_nil]
  have h3 : (ys.take ((i + 1) * 6)).length = (i + 1) * 6 := by rw [List.length_take, hy]; omega
  rw [e1, setL_eq _ _ _ (by rw [List.length_append, h3, hx]; omega)]
  have e2 : (ys.take ((i + 1) * 6) ++ flat JbV.cells (xs.drop i)).take (i * 6) = flat JbV.cells (xs.take i) := by
    rw [List.take_append_of_le_length (by rw [h3]; omega), List.take_take, Nat.min_eq_left (by omega), ht]
  have e3 : (ys.take ((i + 1) * 6) ++ flat JbV.cells (xs.drop i)).drop (i * 6 + (JbV.cells x).length) = flat JbV.cells (xs.drop i) := by
    rw [hx, show i * 6 + 6 = (i + 1) * 6 by omega, List.drop_append_of_le_length (by rw [h3]; exact Nat.le_refl _), List.drop_eq_nil_of_le (by rw [h3]; exact Nat.le_refl _), List.nil_append]
  rw [e2, e3, flat_append]
  have : flat JbV.cells (x :: xs.drop i) = JbV.cells x ++ flat JbV.cells (xs.drop i) := by simp [flat]
  rw [this, List.append_assoc]

def insJ (xs : List JbV) (i : Nat) (x : JbV) : List JbV := xs.take i ++ x :: xs.drop i

set_option maxRecDepth 100000 in
set_option maxHeartbeats 4000000 in
/-- There is room, and it goes ahead of another one. -/
theorem insertJ_room (B g n cap i : Nat) (xs : List JbV) (x : JbV) (w V : World) (hVw : V = w.alloc (.cells #[.int .i64 x.n, .int .i64 x.state, .slice x.ta x.tl x.tc, .slice x.aa x.al x.ac, .int .i64 x.asks, .int .i64 x.age] 64)) (h : w.ownsRow B 64 6 (.slice (some ⟨g, 0, none⟩) n cap) n (flat JbV.cells xs)) (hi : i < n) (hn : n + 1 ≤ cap) :
    Calls Tryz.prog 54 #[.slice (some ⟨g, 0, none⟩) n cap, .int .i64 (i : Int), .slice (some ⟨w.heap.size, 0, none⟩) 1 1] V fun e w' => e = .returned (.slice (some ⟨g, 0, none⟩) (n + 1) cap) ∧ w'.ownsRow B 64 6 (.slice (some ⟨g, 0, none⟩) (n + 1) cap) (n + 1) (flat JbV.cells (insJ xs i x)) ∧ V.grownBy w' (some g) := by
  have hl := own_len jb_len (by decide) h
  obtain ⟨jn, st, ta, tl, tc, aa, al, ac, asks, age, tasks, asked⟩ := x
  simp only [] at hVw
  have hg := h.lt g rfl
  have bV : Below w.heap.size w V := by rw [hVw]; exact (Below.refl _ _).alloc (Nat.le_refl _) _
  have hV := own_below h bV
  have hcm : cap ≤ maxLen := by
    obtain ⟨_, _, e0, _, h2, _⟩ := own_form h
    simp at e0
    omega
  unfold maxLen at hcm
  obtain ⟨ys, hown, hyl, hyt⟩ := own_more hV hn
  have hyi : ys.take (i * 6) = flat JbV.cells (xs.take i) := by
    have : ys.take (i * 6) = (ys.take (n * 6)).take (i * 6) := by rw [List.take_take, Nat.min_eq_left (by omega)]
    rw [this, hyt, flat_take jb_len]
  have bx := boxn_new w #[.int .i64 jn, .int .i64 st, .slice ta tl tc, .slice aa al ac, .int .i64 asks, .int .i64 age] 64 6 rfl
  rw [← hVw] at bx
  have hne : w.heap.size ≠ g := by omega
  have hov : ∀ oo lb cb, (callFunc 76 #[.slice (some ⟨w.heap.size, 0, none⟩) 1 1, .slice (some ⟨g, oo, none⟩) lb cb]).run Tryz.prog V = .ok (.value (.bool false)) V := by
    intro oo lb cb
    have hb : V.heap[w.heap.size]? = some (.cells #[.int .i64 jn, .int .i64 st, .slice ta tl tc, .slice aa al ac, .int .i64 asks, .int .i64 age] 64 (0, 0)) := by rw [hVw]; exact heap_alloc_new w _
    obtain ⟨cur, hgb, hcs⟩ : ∃ cur : Array Value, V.heap[g]? = some (.cells cur 64 (0, 0)) ∧ cur.size = cap * 6 := by
      rcases hV.2 with ⟨hv, _⟩ | ⟨g', cap', cur, hv, _, hgb, _, _, hs, _⟩
      · simp at hv
      · simp at hv
        obtain ⟨rfl, rfl⟩ := hv
        exact ⟨cur, hgb, hs⟩
    obtain ⟨i0, hi0, _, hs0, _⟩ := info_parts jbInfo
    rw [run_callFunc_extern Tryz.func76 (by kernel_rfl) (by kernel_rfl) (by kernel_rfl) (e := Extern.SlicesOverlaps.overlaps #[32, 32] #[4]) (by kernel_rfl),
      Go.Lib.run_overlaps_apart V 32 4 64 Tryz.underlying32 6 (fun w => by simp [sizeOf, typeInfo, hi0, hs0]) ⟨w.heap.size, 0, none⟩ ⟨g, oo, none⟩ 1 1 lb cb hne 64 64 6 (cap * 6)
        (by simp [World.shape?, hb]) (by simp [World.shape?, hgb, hcs]) (by omega) (bx.c 0 (by decide)).2 (by simp [World.frozen?, hb])]
    rfl
  have HDL : Hid ((flat JbV.cells (xs.drop i)).length = (n - i) * 6) := by show _ = _; rw [flat_len jb_len]; simp [hl]
  have h1c : ∀ v ∈ flat JbV.cells (xs.drop i), v.oneCell' = true := flat_one' (k := 6) jb_one _
  have hrow := (own_isRow jb_len hV hl).1
  have hD : Below V.heap.size V V.drew := (Below.refl _ _).drew
  have hownD := own_below hown hD
  have hcp1 : ∀ ty, (Builtin.copy_ #[32, 32] ty #[.slice (some ⟨g, (i + 1) * 6, none⟩) (n - i) (cap - (i + 1)), .slice (some ⟨g, i * 6, none⟩) (n + 1 - i) (cap - i)]).run Tryz.prog V.drew = .ok (goInt ((n - i : Nat) : Int)) (V.drew.setCells g ((i + 1) * 6) (flat JbV.cells (xs.drop i))) := fun ty =>
    run_copy_jobs V.drew ty g ((i + 1) * 6) (n - i) (cap - (i + 1)) ⟨g, i * 6, none⟩ (n + 1 - i) (cap - i) (flat JbV.cells (xs.drop i)) (n - i) (by simp only [Nat.min_def]; split <;> omega) HDL.out
      (fun j v hj => by
        have hf : (flat JbV.cells xs)[i * 6 + j]? = some v := by rw [← List.getElem?_drop, flat_drop jb_len]; exact hj
        have := (own_below hV hD).cells (g := g) rfl _ _ hf
        rw [adr_add] at this ⊢
        rw [Nat.zero_add] at this
        exact this)
      (fun j hj => by rw [HDL.out] at hj; exact (own_there hownD (by omega)).1) (fun j hj => by rw [HDL.out] at hj; exact (own_there hownD (by omega)).2) h1c
  obtain ⟨W1, hW1⟩ : ∃ W1, W1 = V.drew.setCells g ((i + 1) * 6) (flat JbV.cells (xs.drop i)) := ⟨_, rfl⟩
  have own1 : W1.ownsRow B 64 6 (.slice (some ⟨g, 0, none⟩) (n + 1) cap) (n + 1) (setL ys ((i + 1) * 6) (flat JbV.cells (xs.drop i))) := by
    rw [hW1]
    exact own_setCells _ _ _ _ hownD (by rw [HDL.out]; omega)
  have gr1 : V.grownBy W1 (some g) := by rw [hW1]; exact grown_trans (grown_below hD _) (grown_setCells g _ _ _)
  rw [← hW1] at hcp1
  clear hW1
  have bx1 := bx.grown gr1 (by simpa using hne)
  have hcp2 : ∀ ty, (Builtin.copy_ #[32, 32] ty #[.slice (some ⟨g, i * 6, none⟩) (n + 1 - i) (cap - i), .slice (some ⟨w.heap.size, 0, none⟩) 1 1]).run Tryz.prog W1 = .ok (goInt 1) (W1.setCells g (i * 6) [.int .i64 jn, .int .i64 st, .slice ta tl tc, .slice aa al ac, .int .i64 asks, .int .i64 age]) := fun ty =>
    run_copy_jobs W1 ty g (i * 6) (n + 1 - i) (cap - i) ⟨w.heap.size, 0, none⟩ 1 1 [.int .i64 jn, .int .i64 st, .slice ta tl tc, .slice aa al ac, .int .i64 asks, .int .i64 age] 1 (by simp only [Nat.min_def]; split <;> omega) rfl
      (fun j v hj => by
        rw [adr_add, Nat.zero_add]
        have hj3 : j < 6 := (List.getElem?_eq_some_iff.1 hj).1
        rw [(bx1.c j hj3).1]
        have : j = 0 ∨ j = 1 ∨ j = 2 ∨ j = 3 ∨ j = 4 ∨ j = 5 := by omega
        rcases this with rfl | rfl | rfl | rfl | rfl | rfl <;> exact hj)
      (fun j hj => (own_there own1 (by simp at hj; omega)).1) (fun j hj => (own_there own1 (by simp at hj; omega)).2) (fun v hv => by simp at hv; rcases hv with e | e | e | e | e | e <;> subst e <;> rfl)
  have HFIN : Hid ((W1.setCells g (i * 6) [.int .i64 jn, .int .i64 st, .slice ta tl tc, .slice aa al ac, .int .i64 asks, .int .i64 age]).ownsRow B 64 6 (.slice (some ⟨g, 0, none⟩) (n + 1) cap) (n + 1) (flat JbV.cells (insJ xs i ⟨jn, st, ta, tl, tc, aa, al, ac, asks, age, tasks, asked⟩)) ∧ V.grownBy (W1.setCells g (i * 6) [.int .i64 jn, .int .i64 st, .slice ta tl tc, .slice aa al ac, .int .i64 asks, .int .i64 age]) (some g)) := by
    refine ⟨?_, grown_trans gr1 (grown_setCells g _ _ _)⟩
    have o2 := own_setCells (JbV.cells ⟨jn, st, ta, tl, tc, aa, al, ac, asks, age, tasks, asked⟩) (i * 6) W1 _ own1 (by rw [jb_len]; omega)
    rw [put_inJ ⟨jn, st, ta, tl, tc, aa, al, ac, asks, age, tasks, asked⟩ ys hl (by omega) hyl hyi] at o2
    exact o2
  have hz2 : ¬ ((i : Int) = (n : Int)) := by omega
  have hw1 : IntKind.i64.wrap ((i : Int) + 1) = (i : Int) + 1 := by rw [IntKind.wrap_i64]; omega
  have hw2 : IntKind.i64.wrap ((n : Int) + 1) = (n : Int) + 1 := by rw [IntKind.wrap_i64]; omega
  have hin : i ≤ n := by omega
  have hic : i ≤ cap := by omega
  have hi1c : i + 1 ≤ cap := by omega
  have hb1 : (i : Int) ≤ (n : Int) := by omega
  have hb2 : ¬ cap = i + 1 := by omega
  have hb4 : ¬ cap = i := by omega
  have hb5 : ¬ ((cap : Int) < (n : Int) + 1) := by omega
  have hb6 : (i : Int) + 1 ≤ (n : Int) + 1 := by omega
  have hb7 : (i : Int) ≤ (n : Int) + 1 := by omega
  have hb8 : i + 1 ≤ n + 1 := by omega
  have hnc : n ≤ cap := by omega
  have hp0 : (0 : Int) ≤ (i : Int) + 1 := by omega
  have htn : ((i : Int) + 1).toNat = i + 1 := by omega
  clear hV hown own1 gr1 bx1 bx hrow hownD hD h1c hyl hyt hyi h hVw bV hg hcm hne
  go_enter Tryz.func54, Tryz.ntmps54
  go_wp2_with (simp only [hov])
  go_region_law (refine cp_step (by rfl) (.tmp 73) (.tmp 76) 32 32 (by rfl) (.slice (some ⟨g, (i + 1) * 6, none⟩) (n - i) (cap - (i + 1))) (.slice (some ⟨g, i * 6, none⟩) (n + 1 - i) (cap - i)) (by simp [Act.eval, Act.put]) (by simp [Act.eval, Act.put]) (hcp1 _) ?_)
  all_goals
    go_wp2_with (at_builtin; refine cp_wp (by rfl) _ _ 32 32 (by rfl) _ _ (by rfl) (by rfl) (hcp2 _) ?_)
    go_ret
    exact ⟨rfl, HFIN.out.1, HFIN.out.2⟩
end Go.Proofs.YtekglahigjblkaaGreatDoor.Co
/- A store that a call makes in a box of its own: its rows are the call's own, and apart from the box. -/
namespace Go.Proofs.YtekglahigjblkaaGreatDoor.St
open Go.ChangeShapes Go.WideShapes Go.ChangeAt Go.RowKit
set_option linter.unusedVariables false

theorem nD {W V : World} (h : Below W.heap.size W V) : Below W.heap.size W V.drew := h.drew
theorem nA {W V : World} (h : Below W.heap.size W V) (o : Obj) : Below W.heap.size W (V.alloc o) := h.alloc h.size o
theorem isOne {α : Type} [Inhabited α] {k : Nat} {cells : α → List Value} (u : World) (cs : Array Value) (t : TypeId) (x : α) (hc : cs.toList = cells x) (hk : cs.size = k) : IsRow k cells (u.alloc (.cells cs t)) (some ⟨u.heap.size, 0, none⟩) 1 1 [x] := by
  refine ⟨rfl, Nat.le_refl _, by unfold maxLen; omega, fun e => by simp at e, fun _ => ⟨u.heap.size, 0, rfl, by simp, fun i hi j hj => ?_⟩⟩
  obtain rfl : i = 0 := by omega
  have hb : (u.alloc (.cells cs t)).heap[u.heap.size]? = some (.cells cs t (0, 0)) := heap_alloc_new u _
  rw [Nat.zero_mul, Nat.zero_add, cell_of_row _ u.heap.size j cs t (0, 0) hb]
  simp only [List.getD_cons_zero]
  rw [← hc, Array.getElem?_toList]
def SV.box (s : SV) : List Value := [.slice s.ia s.il s.ic, .slice s.la s.ll s.lc, .slice s.da s.dl s.dc, .slice s.oa s.ol s.oc]
structure Made (W w : World) (C m : Nat) (r : SV) : Prop where
  own : OwnStore w C r
  box : BoxN w m 4 r.box
  far_i : (Value.slice r.ia r.il r.ic).ownBlock ≠ some m
  far_l : (Value.slice r.la r.ll r.lc).ownBlock ≠ some m
  far_d : (Value.slice r.da r.dl r.dc).ownBlock ≠ some m
  far_o : (Value.slice r.oa r.ol r.oc).ownBlock ≠ some m
  le : C ≤ m
  bel : Below C W w
theorem Made.sz {W w : World} {C m : Nat} {r : SV} (h : Made W w C m r) : C ≤ w.heap.size := Nat.le_trans h.le (Nat.le_of_lt h.box.lt)
theorem Made.cells {W w : World} {C m : Nat} {r : SV} (h : Made W w C m r) : m < w.heap.size ∧ w.cell? ⟨m, 0, none⟩ = some (.slice r.ia r.il r.ic) ∧ w.cell? ⟨m, 1, none⟩ = some (.slice r.la r.ll r.lc) ∧ w.cell? ⟨m, 2, none⟩ = some (.slice r.da r.dl r.dc) ∧ w.cell? ⟨m, 3, none⟩ = some (.slice r.oa r.ol r.oc) ∧ w.frozen? ⟨m, 0, none⟩ = false ∧ w.frozen? ⟨m, 1, none⟩ = false ∧ w.frozen? ⟨m, 2, none⟩ = false ∧ w.frozen? ⟨m, 3, none⟩ = false :=
  ⟨h.box.lt, (h.box.c 0 (by decide)).1, (h.box.c 1 (by decide)).1, (h.box.c 2 (by decide)).1, (h.box.c 3 (by decide)).1, (h.box.c 0 (by decide)).2, (h.box.c 1 (by decide)).2, (h.box.c 2 (by decide)).2, (h.box.c 3 (by decide)).2⟩
theorem Made.below {W w w' : World} {C m : Nat} {r : SV} (h : Made W w C m r) (hb : Below w.heap.size w w') : Made W w' C m r :=
  ⟨h.own.below hb, h.box.below hb h.box.lt, h.far_i, h.far_l, h.far_d, h.far_o, h.le, h.bel.trans (hb.mono h.sz)⟩
/-- A store of the call's own goes into a new box. -/
theorem Made.new {W w w' : World} {C m : Nat} {r : SV} (h : OwnStore w C r) (hb : Below C W w) (hw : Below w.heap.size w w') (hm : w.heap.size ≤ m) (hbox : BoxN w' m 4 r.box) (hC : C ≤ w.heap.size) : Made W w' C m r := by
  have fi : (Value.slice r.ia r.il r.ic).ownBlock ≠ some m := fun e => by have := (h.items.lt m e).2; omega
  have fl : (Value.slice r.la r.ll r.lc).ownBlock ≠ some m := fun e => by have := (h.locks.lt m e).2; omega
  have fd : (Value.slice r.da r.dl r.dc).ownBlock ≠ some m := fun e => by have := (h.doubts.lt m e).2; omega
  have fo : (Value.slice r.oa r.ol r.oc).ownBlock ≠ some m := fun e => by have := (h.over.lt m e).2; omega
  exact ⟨h.below hw, hbox, fi, fl, fd, fo, Nat.le_trans hC hm, hb.trans (hw.mono hC)⟩
/-- Another list of items, and the box is told. -/
theorem Made.put_items {W w V w5 : World} {C m : Nat} {r : SV} (h : Made W w C m r) (hV : Below w.heap.size w V) {a : Option Addr} {n c : Nat} {xs : List ItV} (hg : V.grownBy w5 (Value.slice r.ia r.il r.ic).ownBlock) (hown : w5.ownsRow C 68 3 (.slice a n c) n (flat ItV.cells xs))
    (hat : (Value.slice a n c).ownBlock = (Value.slice r.ia r.il r.ic).ownBlock ∨ (Value.slice a n c).ownBlock = some V.heap.size) :
    w5.cell? ⟨m, 0, none⟩ = some (Value.slice r.ia r.il r.ic) ∧ w5.frozen? ⟨m, 0, none⟩ = false ∧ Made W (w5.setCell ⟨m, 0, none⟩ (.slice a n c)) C m { r with ia := a, il := n, ic := c, items := xs } := by
  have h1 := h.below hV
  have hb5 : BoxN w5 m 4 r.box := h1.box.grown hg (fun e => h.far_i e.symm)
  have o5 := h1.own.put_items hg hown (at_of hat (Nat.le_refl _))
  have hfar : (Value.slice a n c).ownBlock ≠ some m := by
    rcases hat with e | e <;> rw [e]
    · exact h.far_i
    · intro e2; simp at e2; have := h1.box.lt; omega
  have bel5 : Below C W w5 := h1.bel.grown hg h1.sz (fun q hq => (h1.own.items.lt q hq).1)
  have gs := grown_setCell w5 ⟨m, 0, none⟩ (.slice a n c)
  refine ⟨(hb5.c 0 (by decide)).1, (hb5.c 0 (by decide)).2, ?_⟩
  exact ⟨⟨o5.items.kept gs (.inr hfar), o5.locks.kept gs (.inr h.far_l), o5.doubts.kept gs (.inr h.far_d), o5.over.kept gs (.inr h.far_o), o5.ap_il, o5.ap_id, o5.ap_io, o5.ap_ld, o5.ap_lo, o5.ap_do⟩, hb5.set 0 (by decide) _, hfar, h.far_l, h.far_d, h.far_o, h.le, bel5.setCell (p := ⟨m, 0, none⟩) h.le _⟩
/-- The same row, with other elements in it. -/
theorem Made.set_items {W w w5 : World} {C m : Nat} {r : SV} (h : Made W w C m r) {xs : List ItV} (hg : w.grownBy w5 (Value.slice r.ia r.il r.ic).ownBlock) (hown : w5.ownsRow C 68 3 (Value.slice r.ia r.il r.ic) r.il (flat ItV.cells xs)) : Made W w5 C m { r with items := xs } := by
  have o5 := h.own.put_items hg hown (fun q hq => .inl hq)
  exact ⟨o5, h.box.grown hg (fun e => h.far_i e.symm), h.far_i, h.far_l, h.far_d, h.far_o, h.le, h.bel.grown hg h.sz (fun q hq => (h.own.items.lt q hq).1)⟩
theorem Made.one_items {W w : World} {C m : Nat} {r : SV} (h : Made W w C m r) {g off : Nat} (e : r.ia = some ⟨g, off, none⟩) {i : Nat} (hi : i < r.il) (y : ItV) :
    off = 0 ∧ C ≤ g ∧ g < w.heap.size ∧ g ≠ m ∧ (∀ j, j < 3 → w.frozen? ⟨g, i * 3 + j, none⟩ = false ∧ (w.cell? ⟨g, i * 3 + j, none⟩).isSome = true ∧ w.cell? ⟨g, i * 3 + j, none⟩ = (ItV.cells (r.items.getD i default))[j]?) ∧ Made W (w.setCells g (i * 3) (ItV.cells y)) C m { r with items := r.items.set i y } := by
  have hl := own_len it_len (by decide) h.own.items
  obtain ⟨hr, _⟩ := own_isRow it_len h.own.items hl
  have ho := h.own.items
  rw [e] at ho hr
  have hoff : off = 0 := by
    rcases ho.2 with ⟨hv, _⟩ | ⟨g', cap', cur, hv, _⟩
    · simp at hv
    · simp at hv; exact hv.1.2
  subst hoff
  have hne : g ≠ m := fun e2 => h.far_i (by rw [e, e2]; rfl)
  have hlt := ho.lt g rfl
  refine ⟨rfl, hlt.1, hlt.2, hne, fun j hj => ?_, ?_⟩
  · have hk : i * 3 + j < r.il * 3 := by omega
    obtain ⟨t1, t2⟩ := own_there ho hk
    refine ⟨t2, t1, ?_⟩
    obtain ⟨b', off', e', _, hc⟩ := hr.2.2.2.2 (by omega)
    simp at e'
    obtain ⟨rfl, rfl⟩ := e'
    have := hc i hi j hj
    rw [Nat.zero_add] at this
    exact this
  · have h1 := own_setCells (ItV.cells y) (i * 3) w _ ho (by rw [it_len]; omega)
    rw [flat_setL it_len _ _ (by omega)] at h1
    refine h.set_items ?_ ?_
    · rw [e]; exact grown_setCells g _ _ _
    · rw [e]; exact h1
/-- Another list of locks, and the box is told. -/
theorem Made.put_locks {W w V w5 : World} {C m : Nat} {r : SV} (h : Made W w C m r) (hV : Below w.heap.size w V) {a : Option Addr} {n c : Nat} {xs : List LkV} (hg : V.grownBy w5 (Value.slice r.la r.ll r.lc).ownBlock) (hown : w5.ownsRow C 70 6 (.slice a n c) n (flat LkV.cells xs))
    (hat : (Value.slice a n c).ownBlock = (Value.slice r.la r.ll r.lc).ownBlock ∨ (Value.slice a n c).ownBlock = some V.heap.size) :
    w5.cell? ⟨m, 1, none⟩ = some (Value.slice r.la r.ll r.lc) ∧ w5.frozen? ⟨m, 1, none⟩ = false ∧ Made W (w5.setCell ⟨m, 1, none⟩ (.slice a n c)) C m { r with la := a, ll := n, lc := c, locks := xs } := by
  have h1 := h.below hV
  have hb5 : BoxN w5 m 4 r.box := h1.box.grown hg (fun e => h.far_l e.symm)
  have o5 := h1.own.put_locks hg hown (at_of hat (Nat.le_refl _))
  have hfar : (Value.slice a n c).ownBlock ≠ some m := by
    rcases hat with e | e <;> rw [e]
    · exact h.far_l
    · intro e2; simp at e2; have := h1.box.lt; omega
  have bel5 : Below C W w5 := h1.bel.grown hg h1.sz (fun q hq => (h1.own.locks.lt q hq).1)
  have gs := grown_setCell w5 ⟨m, 1, none⟩ (.slice a n c)
  refine ⟨(hb5.c 1 (by decide)).1, (hb5.c 1 (by decide)).2, ?_⟩
  exact ⟨⟨o5.items.kept gs (.inr h.far_i), o5.locks.kept gs (.inr hfar), o5.doubts.kept gs (.inr h.far_d), o5.over.kept gs (.inr h.far_o), o5.ap_il, o5.ap_id, o5.ap_io, o5.ap_ld, o5.ap_lo, o5.ap_do⟩, hb5.set 1 (by decide) _, h.far_i, hfar, h.far_d, h.far_o, h.le, bel5.setCell (p := ⟨m, 1, none⟩) h.le _⟩
/-- The same row, with other elements in it. -/
theorem Made.set_locks {W w w5 : World} {C m : Nat} {r : SV} (h : Made W w C m r) {xs : List LkV} (hg : w.grownBy w5 (Value.slice r.la r.ll r.lc).ownBlock) (hown : w5.ownsRow C 70 6 (Value.slice r.la r.ll r.lc) r.ll (flat LkV.cells xs)) : Made W w5 C m { r with locks := xs } := by
  have o5 := h.own.put_locks hg hown (fun q hq => .inl hq)
  exact ⟨o5, h.box.grown hg (fun e => h.far_l e.symm), h.far_i, h.far_l, h.far_d, h.far_o, h.le, h.bel.grown hg h.sz (fun q hq => (h.own.locks.lt q hq).1)⟩
theorem Made.one_locks {W w : World} {C m : Nat} {r : SV} (h : Made W w C m r) {g off : Nat} (e : r.la = some ⟨g, off, none⟩) {i : Nat} (hi : i < r.ll) (y : LkV) :
    off = 0 ∧ C ≤ g ∧ g < w.heap.size ∧ g ≠ m ∧ (∀ j, j < 6 → w.frozen? ⟨g, i * 6 + j, none⟩ = false ∧ (w.cell? ⟨g, i * 6 + j, none⟩).isSome = true ∧ w.cell? ⟨g, i * 6 + j, none⟩ = (LkV.cells (r.locks.getD i default))[j]?) ∧ Made W (w.setCells g (i * 6) (LkV.cells y)) C m { r with locks := r.locks.set i y } := by
  have hl := own_len lk_len (by decide) h.own.locks
  obtain ⟨hr, _⟩ := own_isRow lk_len h.own.locks hl
  have ho := h.own.locks
  rw [e] at ho hr
  have hoff : off = 0 := by
    rcases ho.2 with ⟨hv, _⟩ | ⟨g', cap', cur, hv, _⟩
    · simp at hv
    · simp at hv; exact hv.1.2
  subst hoff
  have hne : g ≠ m := fun e2 => h.far_l (by rw [e, e2]; rfl)
  have hlt := ho.lt g rfl
  refine ⟨rfl, hlt.1, hlt.2, hne, fun j hj => ?_, ?_⟩
  · have hk : i * 6 + j < r.ll * 6 := by omega
    obtain ⟨t1, t2⟩ := own_there ho hk
    refine ⟨t2, t1, ?_⟩
    obtain ⟨b', off', e', _, hc⟩ := hr.2.2.2.2 (by omega)
    simp at e'
    obtain ⟨rfl, rfl⟩ := e'
    have := hc i hi j hj
    rw [Nat.zero_add] at this
    exact this
  · have h1 := own_setCells (LkV.cells y) (i * 6) w _ ho (by rw [lk_len]; omega)
    rw [flat_setL lk_len _ _ (by omega)] at h1
    refine h.set_locks ?_ ?_
    · rw [e]; exact grown_setCells g _ _ _
    · rw [e]; exact h1
/-- Another list of doubts, and the box is told. -/
theorem Made.put_doubts {W w V w5 : World} {C m : Nat} {r : SV} (h : Made W w C m r) (hV : Below w.heap.size w V) {a : Option Addr} {n c : Nat} {xs : List DbV} (hg : V.grownBy w5 (Value.slice r.da r.dl r.dc).ownBlock) (hown : w5.ownsRow C 72 3 (.slice a n c) n (flat DbV.cells xs))
    (hat : (Value.slice a n c).ownBlock = (Value.slice r.da r.dl r.dc).ownBlock ∨ (Value.slice a n c).ownBlock = some V.heap.size) :
    w5.cell? ⟨m, 2, none⟩ = some (Value.slice r.da r.dl r.dc) ∧ w5.frozen? ⟨m, 2, none⟩ = false ∧ Made W (w5.setCell ⟨m, 2, none⟩ (.slice a n c)) C m { r with da := a, dl := n, dc := c, doubts := xs } := by
  have h1 := h.below hV
  have hb5 : BoxN w5 m 4 r.box := h1.box.grown hg (fun e => h.far_d e.symm)
  have o5 := h1.own.put_doubts hg hown (at_of hat (Nat.le_refl _))
  have hfar : (Value.slice a n c).ownBlock ≠ some m := by
    rcases hat with e | e <;> rw [e]
    · exact h.far_d
    · intro e2; simp at e2; have := h1.box.lt; omega
  have bel5 : Below C W w5 := h1.bel.grown hg h1.sz (fun q hq => (h1.own.doubts.lt q hq).1)
  have gs := grown_setCell w5 ⟨m, 2, none⟩ (.slice a n c)
  refine ⟨(hb5.c 2 (by decide)).1, (hb5.c 2 (by decide)).2, ?_⟩
  exact ⟨⟨o5.items.kept gs (.inr h.far_i), o5.locks.kept gs (.inr h.far_l), o5.doubts.kept gs (.inr hfar), o5.over.kept gs (.inr h.far_o), o5.ap_il, o5.ap_id, o5.ap_io, o5.ap_ld, o5.ap_lo, o5.ap_do⟩, hb5.set 2 (by decide) _, h.far_i, h.far_l, hfar, h.far_o, h.le, bel5.setCell (p := ⟨m, 2, none⟩) h.le _⟩
/-- The same row, with other elements in it. -/
theorem Made.set_doubts {W w w5 : World} {C m : Nat} {r : SV} (h : Made W w C m r) {xs : List DbV} (hg : w.grownBy w5 (Value.slice r.da r.dl r.dc).ownBlock) (hown : w5.ownsRow C 72 3 (Value.slice r.da r.dl r.dc) r.dl (flat DbV.cells xs)) : Made W w5 C m { r with doubts := xs } := by
  have o5 := h.own.put_doubts hg hown (fun q hq => .inl hq)
  exact ⟨o5, h.box.grown hg (fun e => h.far_d e.symm), h.far_i, h.far_l, h.far_d, h.far_o, h.le, h.bel.grown hg h.sz (fun q hq => (h.own.doubts.lt q hq).1)⟩
theorem Made.one_doubts {W w : World} {C m : Nat} {r : SV} (h : Made W w C m r) {g off : Nat} (e : r.da = some ⟨g, off, none⟩) {i : Nat} (hi : i < r.dl) (y : DbV) :
    off = 0 ∧ C ≤ g ∧ g < w.heap.size ∧ g ≠ m ∧ (∀ j, j < 3 → w.frozen? ⟨g, i * 3 + j, none⟩ = false ∧ (w.cell? ⟨g, i * 3 + j, none⟩).isSome = true ∧ w.cell? ⟨g, i * 3 + j, none⟩ = (DbV.cells (r.doubts.getD i default))[j]?) ∧ Made W (w.setCells g (i * 3) (DbV.cells y)) C m { r with doubts := r.doubts.set i y } := by
  have hl := own_len db_len (by decide) h.own.doubts
  obtain ⟨hr, _⟩ := own_isRow db_len h.own.doubts hl
  have ho := h.own.doubts
  rw [e] at ho hr
  have hoff : off = 0 := by
    rcases ho.2 with ⟨hv, _⟩ | ⟨g', cap', cur, hv, _⟩
    · simp at hv
    · simp at hv; exact hv.1.2
  subst hoff
  have hne : g ≠ m := fun e2 => h.far_d (by rw [e, e2]; rfl)
  have hlt := ho.lt g rfl
  refine ⟨rfl, hlt.1, hlt.2, hne, fun j hj => ?_, ?_⟩
  · have hk : i * 3 + j < r.dl * 3 := by omega
    obtain ⟨t1, t2⟩ := own_there ho hk
    refine ⟨t2, t1, ?_⟩
    obtain ⟨b', off', e', _, hc⟩ := hr.2.2.2.2 (by omega)
    simp at e'
    obtain ⟨rfl, rfl⟩ := e'
    have := hc i hi j hj
    rw [Nat.zero_add] at this
    exact this
  · have h1 := own_setCells (DbV.cells y) (i * 3) w _ ho (by rw [db_len]; omega)
    rw [flat_setL db_len _ _ (by omega)] at h1
    refine h.set_doubts ?_ ?_
    · rw [e]; exact grown_setCells g _ _ _
    · rw [e]; exact h1
/-- Another list of over, and the box is told. -/
theorem Made.put_over {W w V w5 : World} {C m : Nat} {r : SV} (h : Made W w C m r) (hV : Below w.heap.size w V) {a : Option Addr} {n c : Nat} {xs : List (Int × Int)} (hg : V.grownBy w5 (Value.slice r.oa r.ol r.oc).ownBlock) (hown : w5.ownsRow C 51 2 (.slice a n c) n (flat txCells xs))
    (hat : (Value.slice a n c).ownBlock = (Value.slice r.oa r.ol r.oc).ownBlock ∨ (Value.slice a n c).ownBlock = some V.heap.size) :
    w5.cell? ⟨m, 3, none⟩ = some (Value.slice r.oa r.ol r.oc) ∧ w5.frozen? ⟨m, 3, none⟩ = false ∧ Made W (w5.setCell ⟨m, 3, none⟩ (.slice a n c)) C m { r with oa := a, ol := n, oc := c, over := xs } := by
  have h1 := h.below hV
  have hb5 : BoxN w5 m 4 r.box := h1.box.grown hg (fun e => h.far_o e.symm)
  have o5 := h1.own.put_over hg hown (at_of hat (Nat.le_refl _))
  have hfar : (Value.slice a n c).ownBlock ≠ some m := by
    rcases hat with e | e <;> rw [e]
    · exact h.far_o
    · intro e2; simp at e2; have := h1.box.lt; omega
  have bel5 : Below C W w5 := h1.bel.grown hg h1.sz (fun q hq => (h1.own.over.lt q hq).1)
  have gs := grown_setCell w5 ⟨m, 3, none⟩ (.slice a n c)
  refine ⟨(hb5.c 3 (by decide)).1, (hb5.c 3 (by decide)).2, ?_⟩
  exact ⟨⟨o5.items.kept gs (.inr h.far_i), o5.locks.kept gs (.inr h.far_l), o5.doubts.kept gs (.inr h.far_d), o5.over.kept gs (.inr hfar), o5.ap_il, o5.ap_id, o5.ap_io, o5.ap_ld, o5.ap_lo, o5.ap_do⟩, hb5.set 3 (by decide) _, h.far_i, h.far_l, h.far_d, hfar, h.le, bel5.setCell (p := ⟨m, 3, none⟩) h.le _⟩
/-- The same row, with other elements in it. -/
theorem Made.set_over {W w w5 : World} {C m : Nat} {r : SV} (h : Made W w C m r) {xs : List (Int × Int)} (hg : w.grownBy w5 (Value.slice r.oa r.ol r.oc).ownBlock) (hown : w5.ownsRow C 51 2 (Value.slice r.oa r.ol r.oc) r.ol (flat txCells xs)) : Made W w5 C m { r with over := xs } := by
  have o5 := h.own.put_over hg hown (fun q hq => .inl hq)
  exact ⟨o5, h.box.grown hg (fun e => h.far_o e.symm), h.far_i, h.far_l, h.far_d, h.far_o, h.le, h.bel.grown hg h.sz (fun q hq => (h.own.over.lt q hq).1)⟩
theorem Made.one_over {W w : World} {C m : Nat} {r : SV} (h : Made W w C m r) {g off : Nat} (e : r.oa = some ⟨g, off, none⟩) {i : Nat} (hi : i < r.ol) (y : (Int × Int)) :
    off = 0 ∧ C ≤ g ∧ g < w.heap.size ∧ g ≠ m ∧ (∀ j, j < 2 → w.frozen? ⟨g, i * 2 + j, none⟩ = false ∧ (w.cell? ⟨g, i * 2 + j, none⟩).isSome = true ∧ w.cell? ⟨g, i * 2 + j, none⟩ = (txCells (r.over.getD i default))[j]?) ∧ Made W (w.setCells g (i * 2) (txCells y)) C m { r with over := r.over.set i y } := by
  have hl := own_len tx_len (by decide) h.own.over
  obtain ⟨hr, _⟩ := own_isRow tx_len h.own.over hl
  have ho := h.own.over
  rw [e] at ho hr
  have hoff : off = 0 := by
    rcases ho.2 with ⟨hv, _⟩ | ⟨g', cap', cur, hv, _⟩
    · simp at hv
    · simp at hv; exact hv.1.2
  subst hoff
  have hne : g ≠ m := fun e2 => h.far_o (by rw [e, e2]; rfl)
  have hlt := ho.lt g rfl
  refine ⟨rfl, hlt.1, hlt.2, hne, fun j hj => ?_, ?_⟩
  · have hk : i * 2 + j < r.ol * 2 := by omega
    obtain ⟨t1, t2⟩ := own_there ho hk
    refine ⟨t2, t1, ?_⟩
    obtain ⟨b', off', e', _, hc⟩ := hr.2.2.2.2 (by omega)
    simp at e'
    obtain ⟨rfl, rfl⟩ := e'
    have := hc i hi j hj
    rw [Nat.zero_add] at this
    exact this
  · have h1 := own_setCells (txCells y) (i * 2) w _ ho (by rw [tx_len]; omega)
    rw [flat_setL tx_len _ _ (by omega)] at h1
    refine h.set_over ?_ ?_
    · rw [e]; exact grown_setCells g _ _ _
    · rw [e]; exact h1
/-- One cell of one of the items. -/
theorem Made.cell_items {W w : World} {C m : Nat} {r : SV} (h : Made W w C m r) {g off : Nat} (e : r.ia = some ⟨g, off, none⟩) {i j : Nat} (hi : i < r.il) (hj : j < 3) (u : Value) (y : ItV) (hy : ItV.cells y = (ItV.cells (r.items.getD i default)).set j u) : Made W (w.setCell ⟨g, i * 3 + j, none⟩ u) C m { r with items := r.items.set i y } := by
  have hl := own_len it_len (by decide) h.own.items
  have ho := h.own.items
  rw [e] at ho
  have hoff : off = 0 := by
    rcases ho.2 with ⟨hv, _⟩ | ⟨g', cap', cur, hv, _⟩
    · simp at hv
    · simp at hv; exact hv.1.2
  subst hoff
  have h1 := own_setk ho (k := i * 3 + j) (by omega) u
  rw [flat_set it_len _ _ _ _ y (by omega) hj hy] at h1
  refine h.set_items ?_ ?_
  · rw [e]; exact grown_setCell w ⟨g, i * 3 + j, none⟩ u
  · rw [e]; exact h1
/-- One cell of one of the locks. -/
theorem Made.cell_locks {W w : World} {C m : Nat} {r : SV} (h : Made W w C m r) {g off : Nat} (e : r.la = some ⟨g, off, none⟩) {i j : Nat} (hi : i < r.ll) (hj : j < 6) (u : Value) (y : LkV) (hy : LkV.cells y = (LkV.cells (r.locks.getD i default)).set j u) : Made W (w.setCell ⟨g, i * 6 + j, none⟩ u) C m { r with locks := r.locks.set i y } := by
  have hl := own_len lk_len (by decide) h.own.locks
  have ho := h.own.locks
  rw [e] at ho
  have hoff : off = 0 := by
    rcases ho.2 with ⟨hv, _⟩ | ⟨g', cap', cur, hv, _⟩
    · simp at hv
    · simp at hv; exact hv.1.2
  subst hoff
  have h1 := own_setk ho (k := i * 6 + j) (by omega) u
  rw [flat_set lk_len _ _ _ _ y (by omega) hj hy] at h1
  refine h.set_locks ?_ ?_
  · rw [e]; exact grown_setCell w ⟨g, i * 6 + j, none⟩ u
  · rw [e]; exact h1
/-- One cell of one of the doubts. -/
theorem Made.cell_doubts {W w : World} {C m : Nat} {r : SV} (h : Made W w C m r) {g off : Nat} (e : r.da = some ⟨g, off, none⟩) {i j : Nat} (hi : i < r.dl) (hj : j < 3) (u : Value) (y : DbV) (hy : DbV.cells y = (DbV.cells (r.doubts.getD i default)).set j u) : Made W (w.setCell ⟨g, i * 3 + j, none⟩ u) C m { r with doubts := r.doubts.set i y } := by
  have hl := own_len db_len (by decide) h.own.doubts
  have ho := h.own.doubts
  rw [e] at ho
  have hoff : off = 0 := by
    rcases ho.2 with ⟨hv, _⟩ | ⟨g', cap', cur, hv, _⟩
    · simp at hv
    · simp at hv; exact hv.1.2
  subst hoff
  have h1 := own_setk ho (k := i * 3 + j) (by omega) u
  rw [flat_set db_len _ _ _ _ y (by omega) hj hy] at h1
  refine h.set_doubts ?_ ?_
  · rw [e]; exact grown_setCell w ⟨g, i * 3 + j, none⟩ u
  · rw [e]; exact h1
/-- One cell of one of the over. -/
theorem Made.cell_over {W w : World} {C m : Nat} {r : SV} (h : Made W w C m r) {g off : Nat} (e : r.oa = some ⟨g, off, none⟩) {i j : Nat} (hi : i < r.ol) (hj : j < 2) (u : Value) (y : (Int × Int)) (hy : txCells y = (txCells (r.over.getD i default)).set j u) : Made W (w.setCell ⟨g, i * 2 + j, none⟩ u) C m { r with over := r.over.set i y } := by
  have hl := own_len tx_len (by decide) h.own.over
  have ho := h.own.over
  rw [e] at ho
  have hoff : off = 0 := by
    rcases ho.2 with ⟨hv, _⟩ | ⟨g', cap', cur, hv, _⟩
    · simp at hv
    · simp at hv; exact hv.1.2
  subst hoff
  have h1 := own_setk ho (k := i * 2 + j) (by omega) u
  rw [flat_set tx_len _ _ _ _ y (by omega) hj hy] at h1
  refine h.set_over ?_ ?_
  · rw [e]; exact grown_setCell w ⟨g, i * 2 + j, none⟩ u
  · rw [e]; exact h1
/-- All that a store is made of lies below B. -/
structure Under (r : SV) (m B : Nat) : Prop where
  m : m < B
  items : ∀ q, (Value.slice r.ia r.il r.ic).ownBlock = some q → q < B
  locks : ∀ q, (Value.slice r.la r.ll r.lc).ownBlock = some q → q < B
  doubts : ∀ q, (Value.slice r.da r.dl r.dc).ownBlock = some q → q < B
  over : ∀ q, (Value.slice r.oa r.ol r.oc).ownBlock = some q → q < B
theorem Made.under {W w : World} {C m : Nat} {r : SV} (h : Made W w C m r) : Under r m w.heap.size := ⟨h.box.lt, fun q hq => (h.own.items.lt q hq).2, fun q hq => (h.own.locks.lt q hq).2, fun q hq => (h.own.doubts.lt q hq).2, fun q hq => (h.own.over.lt q hq).2⟩
theorem Made.aside {W w w' : World} {C m B : Nat} {r : SV} {row : Option Nat} (h : Made W w C m r) (hu : Under r m B) (hg : w.grownBy w' row) (hrow : ∀ q, row = some q → B ≤ q) (hC : C ≤ B) : Made W w' C m r := by
  have ki : (Value.slice r.ia r.il r.ic).ownBlock = none ∨ (Value.slice r.ia r.il r.ic).ownBlock ≠ row := by
    cases e : (Value.slice r.ia r.il r.ic).ownBlock with
    | none => exact .inl rfl
    | some q => exact .inr fun e2 => by have := hrow q e2.symm; have := hu.items q e; omega
  have kl : (Value.slice r.la r.ll r.lc).ownBlock = none ∨ (Value.slice r.la r.ll r.lc).ownBlock ≠ row := by
    cases e : (Value.slice r.la r.ll r.lc).ownBlock with
    | none => exact .inl rfl
    | some q => exact .inr fun e2 => by have := hrow q e2.symm; have := hu.locks q e; omega
  have kd : (Value.slice r.da r.dl r.dc).ownBlock = none ∨ (Value.slice r.da r.dl r.dc).ownBlock ≠ row := by
    cases e : (Value.slice r.da r.dl r.dc).ownBlock with
    | none => exact .inl rfl
    | some q => exact .inr fun e2 => by have := hrow q e2.symm; have := hu.doubts q e; omega
  have ko : (Value.slice r.oa r.ol r.oc).ownBlock = none ∨ (Value.slice r.oa r.ol r.oc).ownBlock ≠ row := by
    cases e : (Value.slice r.oa r.ol r.oc).ownBlock with
    | none => exact .inl rfl
    | some q => exact .inr fun e2 => by have := hrow q e2.symm; have := hu.over q e; omega
  exact ⟨⟨h.own.items.kept hg ki, h.own.locks.kept hg kl, h.own.doubts.kept hg kd, h.own.over.kept hg ko, h.own.ap_il, h.own.ap_id, h.own.ap_io, h.own.ap_ld, h.own.ap_lo, h.own.ap_do⟩, h.box.grown hg (fun e => by have := hrow _ e.symm; have := hu.m; omega), h.far_i, h.far_l, h.far_d, h.far_o, h.le, h.bel.grown hg h.sz (fun q hq => Nat.le_trans hC (hrow q hq))⟩
/-- None of the store's rows lies in that block. -/
structure Off (r : SV) (b : Nat) : Prop where
  i : (Value.slice r.ia r.il r.ic).ownBlock ≠ some b
  l : (Value.slice r.la r.ll r.lc).ownBlock ≠ some b
  d : (Value.slice r.da r.dl r.dc).ownBlock ≠ some b
  o : (Value.slice r.oa r.ol r.oc).ownBlock ≠ some b
theorem Off.of_lt {w : World} {C b : Nat} {s : SV} (h : OwnStore w C s) (hb : w.heap.size ≤ b) : Off s b := ⟨fun e => by have := (h.items.lt b e).2; omega, fun e => by have := (h.locks.lt b e).2; omega, fun e => by have := (h.doubts.lt b e).2; omega, fun e => by have := (h.over.lt b e).2; omega⟩
theorem Off.of_ge {w : World} {C b : Nat} {s : SV} (h : OwnStore w C s) (hb : b < C) : Off s b := ⟨fun e => by have := (h.items.lt b e).1; omega, fun e => by have := (h.locks.lt b e).1; omega, fun e => by have := (h.doubts.lt b e).1; omega, fun e => by have := (h.over.lt b e).1; omega⟩
theorem Off.far {w : World} {C b j : Nat} {s : SV} (f : Off s b) (h : OwnStore w C s) (v : Value) : OwnStore (w.setCell ⟨b, j, none⟩ v) C s := ⟨h.items.kept (grown_setCell w ⟨b, j, none⟩ v) (.inr f.i), h.locks.kept (grown_setCell w ⟨b, j, none⟩ v) (.inr f.l), h.doubts.kept (grown_setCell w ⟨b, j, none⟩ v) (.inr f.d), h.over.kept (grown_setCell w ⟨b, j, none⟩ v) (.inr f.o), h.ap_il, h.ap_id, h.ap_io, h.ap_ld, h.ap_lo, h.ap_do⟩
theorem Off.put_items {V : World} {b : Nat} {r : SV} (f : Off r b) {a : Option Addr} {n c : Nat} {xs : List ItV} (hat : (Value.slice a n c).ownBlock = (Value.slice r.ia r.il r.ic).ownBlock ∨ (Value.slice a n c).ownBlock = some V.heap.size) (hb : b < V.heap.size) : Off { r with ia := a, il := n, ic := c, items := xs } b := by
  have k : (Value.slice a n c).ownBlock ≠ some b := by
    rcases hat with e | e <;> rw [e]
    · exact f.i
    · intro e2; simp at e2; omega
  exact ⟨k, f.l, f.d, f.o⟩
theorem Off.put_locks {V : World} {b : Nat} {r : SV} (f : Off r b) {a : Option Addr} {n c : Nat} {xs : List LkV} (hat : (Value.slice a n c).ownBlock = (Value.slice r.la r.ll r.lc).ownBlock ∨ (Value.slice a n c).ownBlock = some V.heap.size) (hb : b < V.heap.size) : Off { r with la := a, ll := n, lc := c, locks := xs } b := by
  have k : (Value.slice a n c).ownBlock ≠ some b := by
    rcases hat with e | e <;> rw [e]
    · exact f.l
    · intro e2; simp at e2; omega
  exact ⟨f.i, k, f.d, f.o⟩
theorem Off.put_doubts {V : World} {b : Nat} {r : SV} (f : Off r b) {a : Option Addr} {n c : Nat} {xs : List DbV} (hat : (Value.slice a n c).ownBlock = (Value.slice r.da r.dl r.dc).ownBlock ∨ (Value.slice a n c).ownBlock = some V.heap.size) (hb : b < V.heap.size) : Off { r with da := a, dl := n, dc := c, doubts := xs } b := by
  have k : (Value.slice a n c).ownBlock ≠ some b := by
    rcases hat with e | e <;> rw [e]
    · exact f.d
    · intro e2; simp at e2; omega
  exact ⟨f.i, f.l, k, f.o⟩
theorem Off.put_over {V : World} {b : Nat} {r : SV} (f : Off r b) {a : Option Addr} {n c : Nat} {xs : List (Int × Int)} (hat : (Value.slice a n c).ownBlock = (Value.slice r.oa r.ol r.oc).ownBlock ∨ (Value.slice a n c).ownBlock = some V.heap.size) (hb : b < V.heap.size) : Off { r with oa := a, ol := n, oc := c, over := xs } b := by
  have k : (Value.slice a n c).ownBlock ≠ some b := by
    rcases hat with e | e <;> rw [e]
    · exact f.o
    · intro e2; simp at e2; omega
  exact ⟨f.i, f.l, f.d, k⟩
theorem Off.four {w : World} {C b : Nat} {s : SV} (f : Off s b) (h : OwnStore w C s) (p0 p1 p2 p3 : Value) : OwnStore ((((w.setCell ⟨b, 0, none⟩ p0).setCell ⟨b, 1, none⟩ p1).setCell ⟨b, 2, none⟩ p2).setCell ⟨b, 3, none⟩ p3) C s := f.far (f.far (f.far (f.far h p0) p1) p2) p3
theorem OwnStore.four {w : World} {C b : Nat} {s : SV} (h : OwnStore w C s) (hb : b < C) (p0 p1 p2 p3 : Value) : OwnStore ((((w.setCell ⟨b, 0, none⟩ p0).setCell ⟨b, 1, none⟩ p1).setCell ⟨b, 2, none⟩ p2).setCell ⟨b, 3, none⟩ p3) C s := (((h.box (p := ⟨b, 0, none⟩) hb p0).box (p := ⟨b, 1, none⟩) hb p1).box (p := ⟨b, 2, none⟩) hb p2).box (p := ⟨b, 3, none⟩) hb p3
theorem cell_four {U : World} {b c i : Nat} (h : b ≠ c) (p0 p1 p2 p3 : Value) : ((((U.setCell ⟨c, 0, none⟩ p0).setCell ⟨c, 1, none⟩ p1).setCell ⟨c, 2, none⟩ p2).setCell ⟨c, 3, none⟩ p3).cell? ⟨b, i, none⟩ = U.cell? ⟨b, i, none⟩ := by
  rw [World.cell?_of_block (a := ⟨b, i, none⟩) (Below.heap_setCell _ ⟨c, 3, none⟩ p3 b h), World.cell?_of_block (a := ⟨b, i, none⟩) (Below.heap_setCell _ ⟨c, 2, none⟩ p2 b h), World.cell?_of_block (a := ⟨b, i, none⟩) (Below.heap_setCell _ ⟨c, 1, none⟩ p1 b h), World.cell?_of_block (a := ⟨b, i, none⟩) (Below.heap_setCell _ ⟨c, 0, none⟩ p0 b h)]
theorem below_four {a w : World} {C b : Nat} (h : Below C a w) (hb : C ≤ b) (p0 p1 p2 p3 : Value) : Below C a ((((w.setCell ⟨b, 0, none⟩ p0).setCell ⟨b, 1, none⟩ p1).setCell ⟨b, 2, none⟩ p2).setCell ⟨b, 3, none⟩ p3) := by
  refine Below.setCell (Below.setCell (Below.setCell (Below.setCell h ?_ _) ?_ _) ?_ _) ?_ _
  all_goals exact hb
end Go.Proofs.YtekglahigjblkaaGreatDoor.St
/- The contract of slices.Insert at items, whatever room there is. -/
namespace Go.Proofs.YtekglahigjblkaaGreatDoor.Co
open Go.ChangeShapes Go.WideShapes Go.ChangeAt Go.RowKit
open Go.Proofs.YtekglahigjblkaaGreatDoor.St
set_option linter.unusedVariables false

theorem put_inJ2 {xs : List JbV} {n i : Nat} (x : JbV) (ys : List Value) (hl : xs.length = n) (hi : i ≤ n) (hy : ys.length = (n + 1) * 6) (ht : ys.take (i * 6) = flat JbV.cells (xs.take i)) : setL (setL ys (i * 6) (JbV.cells x)) ((i + 1) * 6) (flat JbV.cells (xs.drop i)) = flat JbV.cells (xs.take i ++ x :: xs.drop i) := by
  have hd : (flat JbV.cells (xs.drop i)).length = (n - i) * 6 := by rw [flat_len jb_len]; simp [hl]
  have hx : (JbV.cells x).length = 6 := rfl
  have h0 : (setL ys (i * 6) (JbV.cells x)).length = (n + 1) * 6 := by rw [setL_len, hy]
  have hdn : (setL ys (i * 6) (JbV.cells x)).drop ((i + 1) * 6 + (flat JbV.cells (xs.drop i)).length) = [] := List.drop_eq_nil_of_le (by rw [hd, h0]; omega)
  have h1 : (ys.take (i * 6)).length = i * 6 := by rw [List.length_take, hy]; omega
  have e2 : (setL ys (i * 6) (JbV.cells x)).take ((i + 1) * 6) = flat JbV.cells (xs.take i) ++ JbV.cells x := by
    rw [setL_eq _ _ _ (by rw [hx, hy]; omega), ht]
    rw [ht] at h1
    rw [List.take_append_of_le_length (by rw [List.length_append, h1, hx]; omega), List.take_of_length_le (by rw [List.length_append, h1, hx]; omega)]
  rw [setL_eq _ _ _ (by rw [hd, h0]; omega), hdn, e2, List.append_nil, flat_append]
  have : flat JbV.cells (x :: xs.drop i) = JbV.cells x ++ flat JbV.cells (xs.drop i) := by simp [flat]
  rw [this, List.append_assoc]

set_option maxRecDepth 100000 in
set_option maxHeartbeats 4000000 in
/-- Behind all. -/
theorem insertJ_end (B : Nat) (a : Option Addr) (n cap : Nat) (xs : List JbV) (x : JbV) (w V : World) (hVw : V = w.alloc (.cells #[.int .i64 x.n, .int .i64 x.state, .slice x.ta x.tl x.tc, .slice x.aa x.al x.ac, .int .i64 x.asks, .int .i64 x.age] 64)) (h : w.ownsRow B 64 6 (.slice a n cap) n (flat JbV.cells xs)) (hB : B ≤ w.heap.size) (hn : n ≤ 100) :
    Calls Tryz.prog 54 #[.slice a n cap, .int .i64 (n : Int), .slice (some ⟨w.heap.size, 0, none⟩) 1 1] V fun e w' => ∃ a' c', e = .returned (.slice a' (n + 1) c') ∧ w'.ownsRow B 64 6 (.slice a' (n + 1) c') (n + 1) (flat JbV.cells (insJ xs n x)) ∧ V.grownBy w' (Value.slice a n cap).ownBlock ∧ ((Value.slice a' (n + 1) c').ownBlock = (Value.slice a n cap).ownBlock ∨ (Value.slice a' (n + 1) c').ownBlock = some V.heap.size) := by
  obtain ⟨i1, E1⟩ := jbElem
  have hl := own_len jb_len (by decide) h
  have HI : Hid (insJ xs n x = xs ++ [x]) := by
    show _ = _
    unfold insJ
    rw [List.take_of_length_le (by omega), List.drop_eq_nil_of_le (by omega)]
  obtain ⟨jn, st, ta, tl, tc, aa, al, ac, asks, age, tasks, asked⟩ := x
  simp only [] at hVw
  have bV : Below w.heap.size w V := by rw [hVw]; exact (Below.refl _ _).alloc (Nat.le_refl _) _
  have hV := own_below h bV
  have hv1 : IsRow 6 JbV.cells V (some ⟨w.heap.size, 0, none⟩) 1 1 [(⟨jn, st, ta, tl, tc, aa, al, ac, asks, age, tasks, asked⟩ : JbV)] := by rw [hVw]; exact isOne w #[.int .i64 jn, .int .i64 st, .slice ta tl tc, .slice aa al ac, .int .i64 asks, .int .i64 age] 64 (⟨jn, st, ta, tl, tc, aa, al, ac, asks, age, tasks, asked⟩ : JbV) rfl rfl
  obtain ⟨_, _, e0, hnc, hcm, hnil⟩ := own_form h
  simp at e0
  obtain ⟨rfl, rfl⟩ := e0
  unfold maxLen at hcm
  have hBV : B ≤ V.heap.size := Nat.le_trans hB bV.size
  clear h hVw bV
  by_cases hcn : cap = n
  · subst hcn
    cases a with
    | none =>
      obtain rfl : cap = 0 := hnil rfl
      go_enter Tryz.func54, Tryz.ntmps54
      go_wp2_with (at_builtin; go_loud (refine wpList_append_row E1 (by rfl) _ _ (by rfl) B (.slice none 0 0) 0 xs (by rfl) hV _ 1 1 [⟨jn, st, ta, tl, tc, aa, al, ac, asks, age, tasks, asked⟩] (by rfl) hv1 (by unfold maxLen; omega) (by omega) hBV ?_; intro a5 c5 w5 own5 gr5 at5))
      go_ret
      exact ⟨a5, c5, rfl, by rw [HI.out]; exact own5, gr5, at5⟩
    | some ad =>
      obtain ⟨ab, ao, asp⟩ := ad
      go_enter Tryz.func54, Tryz.ntmps54
      go_wp2_with (at_builtin; go_loud (refine wpList_append_row E1 (by rfl) _ _ (by rfl) B (.slice (some ⟨ab, ao, asp⟩) cap cap) cap xs (by rfl) hV _ 1 1 [⟨jn, st, ta, tl, tc, aa, al, ac, asks, age, tasks, asked⟩] (by rfl) hv1 (by unfold maxLen; omega) (by omega) hBV ?_; intro a5 c5 w5 own5 gr5 at5))
      go_ret
      exact ⟨a5, c5, rfl, by rw [HI.out]; exact own5, gr5, at5⟩
  · cases a with
    | none => exact absurd (hnil rfl) (by omega)
    | some ad =>
      obtain ⟨ab, ao, asp⟩ := ad
      go_enter Tryz.func54, Tryz.ntmps54
      go_wp2_with (at_builtin; go_loud (refine wpList_append_row E1 (by rfl) _ _ (by rfl) B (.slice (some ⟨ab, ao, asp⟩) n cap) n xs (by rfl) hV _ 1 1 [⟨jn, st, ta, tl, tc, aa, al, ac, asks, age, tasks, asked⟩] (by rfl) hv1 (by unfold maxLen; omega) (by omega) hBV ?_; intro a5 c5 w5 own5 gr5 at5))
      go_ret
      exact ⟨a5, c5, rfl, by rw [HI.out]; exact own5, gr5, at5⟩

set_option maxRecDepth 100000 in
set_option maxHeartbeats 4000000 in
/-- There is no room, and it goes ahead of another one. -/
theorem insertJ_grow (B g n i : Nat) (xs : List JbV) (x : JbV) (w V : World) (hVw : V = w.alloc (.cells #[.int .i64 x.n, .int .i64 x.state, .slice x.ta x.tl x.tc, .slice x.aa x.al x.ac, .int .i64 x.asks, .int .i64 x.age] 64)) (h : w.ownsRow B 64 6 (.slice (some ⟨g, 0, none⟩) n n) n (flat JbV.cells xs)) (hB : B ≤ w.heap.size) (hi : i < n) (hn : n ≤ 100) :
    Calls Tryz.prog 54 #[.slice (some ⟨g, 0, none⟩) n n, .int .i64 (i : Int), .slice (some ⟨w.heap.size, 0, none⟩) 1 1] V fun e w' => ∃ a' c', e = .returned (.slice a' (n + 1) c') ∧ w'.ownsRow B 64 6 (.slice a' (n + 1) c') (n + 1) (flat JbV.cells (insJ xs i x)) ∧ V.grownBy w' (some g) ∧ ((Value.slice a' (n + 1) c').ownBlock = some g ∨ (Value.slice a' (n + 1) c').ownBlock = some V.heap.size) := by
  have hl := own_len jb_len (by decide) h
  obtain ⟨jn, st, ta, tl, tc, aa, al, ac, asks, age, tasks, asked⟩ := x
  simp only [] at hVw
  have hg := h.lt g rfl
  have bV : Below w.heap.size w V := by rw [hVw]; exact (Below.refl _ _).alloc (Nat.le_refl _) _
  have zV : V.heap.size = w.heap.size + 1 := by rw [hVw]; simp
  have hV := own_below h bV
  have bx := boxn_new w #[.int .i64 jn, .int .i64 st, .slice ta tl tc, .slice aa al ac, .int .i64 asks, .int .i64 age] 64 6 rfl
  rw [← hVw] at bx
  obtain ⟨j0, hj0, lz, ls, lb⟩ := info_parts jbInfo
  have hD : Below V.heap.size V V.drew := (Below.refl _ _).drew
  have hVd := own_below hV hD
  obtain ⟨C, eC⟩ : ∃ C, C = grownCap V (n + 1) n 64 := ⟨_, rfl⟩
  have hC1 : n + 1 ≤ C := by rw [eC]; exact grownCap_ge V (n + 1) n 64
  have hC2 : C ≤ maxLen := by rw [eC]; exact grownCap_le_maxLen V (n + 1) n 64 (by unfold maxLen; omega)
  obtain ⟨arr, earr⟩ : ∃ arr : Array Value, arr = (flat JbV.cells (xs.take i)).toArray ++ Builtin.zeroCells (Value.cells (.agg #[.int .i64 0, .int .i64 0, .slice none 0 0, .slice none 0 0, .int .i64 0, .int .i64 0])) (n + 1 - i) ++ Builtin.zeroCells (Value.cells (.agg #[.int .i64 0, .int .i64 0, .slice none 0 0, .slice none 0 0, .int .i64 0, .int .i64 0])) (C - (n + 1)) := ⟨_, rfl⟩
  have hfl : (flat JbV.cells (xs.take i)).length = i * 6 := by rw [flat_len jb_len, List.length_take, hl]; omega
  have has : arr.size = C * 6 := by
    rw [earr]
    simp only [Array.size_append, List.size_toArray, size_zeroCells, hfl]
    show i * 6 + (n + 1 - i) * 6 + (C - (n + 1)) * 6 = C * 6
    omega
  have hap : ∀ ty, (Builtin.append_ #[32, 3] ty #[.slice (some ⟨g, 0, none⟩) i n, .int .i64 ((n : Int) + 1 - (i : Int))]).run Tryz.prog V = .ok (.slice (some ⟨V.heap.size, 0, none⟩) (n + 1) C) (V.drew.alloc (.cells arr 64)) := fun ty => by
    have hr := Go.Lib.run_append_grow_zeros (P := Tryz.prog) V 32 3 ty 64 j0 (.agg #[.int .i64 0, .int .i64 0, .slice none 0 0, .slice none 0 0, .int .i64 0, .int .i64 0]) .i64 .i64 Tryz.underlying32 Tryz.underlying3 hj0 lz (some ⟨g, 0, none⟩) i n (flat JbV.cells (xs.take i))
      (by
        rw [ls]
        refine run_firstCells_some V.drew 6 i ⟨g, 0, none⟩ i n _ hfl (fun j v hj => ?_)
        have hjl : j < i * 6 := by rw [← hfl]; exact (List.getElem?_eq_some_iff.1 hj).1
        have hf : (flat JbV.cells xs)[j]? = some v := by
          rw [← flat_take jb_len, List.getElem?_take_of_lt hjl] at hj
          exact hj
        exact hVd.cells (g := g) rfl _ _ hf)
      (n + 1 - i) (by omega) (by rw [ls]; decide) (by omega) (by omega) (by rw [lb]; omega) (by rw [lb]; exact growslice_fits (by omega) (by omega))
    have e1 : i + (n + 1 - i) = n + 1 := by omega
    have e2 : ((n + 1 - i : Nat) : Int) = (n : Int) + 1 - (i : Int) := by omega
    rw [e1, e2, ← eC, ← earr] at hr
    exact hr
  obtain ⟨X, hX⟩ : ∃ X : World, X = V.drew.alloc (.cells arr 64) := ⟨_, rfl⟩
  have bX : Below V.heap.size V X := by rw [hX]; exact hD.alloc hD.size _
  have hXb : X.heap[V.heap.size]? = some (.cells arr 64 (0, 0)) := by rw [hX]; exact heap_alloc_new V.drew _
  have zX : V.heap.size < X.heap.size := by rw [hX]; simp
  have ownX : X.ownsRow B 64 6 (.slice (some ⟨V.heap.size, 0, none⟩) (n + 1) C) (n + 1) (arr.toList.take ((n + 1) * 6)) :=
    ⟨by rw [List.length_take, Array.length_toList, has]; omega, .inr ⟨V.heap.size, C, arr, rfl, by omega, hXb, hC1, hC2, has, rfl⟩⟩
  have hyl : (arr.toList.take ((n + 1) * 6)).length = (n + 1) * 6 := by rw [List.length_take, Array.length_toList, has]; omega
  have hyt : (arr.toList.take ((n + 1) * 6)).take (i * 6) = flat JbV.cells (xs.take i) := by
    rw [List.take_take, Nat.min_eq_left (by omega), earr]
    simp only [Array.toList_append, List.append_assoc]
    rw [List.take_append_of_le_length (by rw [hfl]; exact Nat.le_refl _), List.take_of_length_le (by rw [hfl]; exact Nat.le_refl _)]
  obtain ⟨ys, eys⟩ : ∃ ys, ys = arr.toList.take ((n + 1) * 6) := ⟨_, rfl⟩
  rw [← eys] at ownX hyl hyt
  rw [← hX] at hap
  clear eys hX earr has hXb
  have hne : w.heap.size ≠ V.heap.size := by omega
  have hgne : g ≠ V.heap.size := by omega
  have bxX := bx.below bX bx.lt
  have hcp1 : ∀ ty, (Builtin.copy_ #[32, 32] ty #[.slice (some ⟨V.heap.size, i * 6, none⟩) (n + 1 - i) (C - i), .slice (some ⟨w.heap.size, 0, none⟩) 1 1]).run Tryz.prog X = .ok (goInt 1) (X.setCells V.heap.size (i * 6) [.int .i64 jn, .int .i64 st, .slice ta tl tc, .slice aa al ac, .int .i64 asks, .int .i64 age]) := fun ty =>
    run_copy_jobs X ty V.heap.size (i * 6) (n + 1 - i) (C - i) ⟨w.heap.size, 0, none⟩ 1 1 [.int .i64 jn, .int .i64 st, .slice ta tl tc, .slice aa al ac, .int .i64 asks, .int .i64 age] 1 (by simp only [Nat.min_def]; split <;> omega) rfl
      (fun j v hj => by
        rw [adr_add, Nat.zero_add]
        have hj3 : j < 6 := (List.getElem?_eq_some_iff.1 hj).1
        rw [(bxX.c j hj3).1]
        have : j = 0 ∨ j = 1 ∨ j = 2 ∨ j = 3 ∨ j = 4 ∨ j = 5 := by omega
        rcases this with rfl | rfl | rfl | rfl | rfl | rfl <;> exact hj)
      (fun j hj => (own_there ownX (by simp at hj; omega)).1) (fun j hj => (own_there ownX (by simp at hj; omega)).2) (fun v hv => by simp at hv; rcases hv with e | e | e | e | e | e <;> subst e <;> rfl)
  obtain ⟨X1, hX1⟩ : ∃ X1, X1 = X.setCells V.heap.size (i * 6) [.int .i64 jn, .int .i64 st, .slice ta tl tc, .slice aa al ac, .int .i64 asks, .int .i64 age] := ⟨_, rfl⟩
  have own1 : X1.ownsRow B 64 6 (.slice (some ⟨V.heap.size, 0, none⟩) (n + 1) C) (n + 1) (setL ys (i * 6) (JbV.cells ⟨jn, st, ta, tl, tc, aa, al, ac, asks, age, tasks, asked⟩)) := by
    rw [hX1]
    exact own_setCells (JbV.cells ⟨jn, st, ta, tl, tc, aa, al, ac, asks, age, tasks, asked⟩) (i * 6) X _ ownX (by rw [jb_len]; omega)
  have gr1 : X.grownBy X1 (some V.heap.size) := by rw [hX1]; exact grown_setCells V.heap.size _ _ _
  rw [← hX1] at hcp1
  clear hX1
  have hD1 : Below X1.heap.size X1 X1.drew := (Below.refl _ _).drew
  have own1d := own_below own1 hD1
  have old1 := own_below ((own_below hV bX).kept gr1 (.inr (by simpa [Value.ownBlock] using hgne))) hD1
  have HDL : Hid ((flat JbV.cells (xs.drop i)).length = (n - i) * 6) := by show _ = _; rw [flat_len jb_len]; simp [hl]
  have h1c : ∀ v ∈ flat JbV.cells (xs.drop i), v.oneCell' = true := flat_one' (k := 6) jb_one _
  have hcp2 : ∀ ty, (Builtin.copy_ #[32, 32] ty #[.slice (some ⟨V.heap.size, (i + 1) * 6, none⟩) (n - i) (C - (i + 1)), .slice (some ⟨g, i * 6, none⟩) (n - i) (n - i)]).run Tryz.prog X1.drew = .ok (goInt ((n - i : Nat) : Int)) (X1.drew.setCells V.heap.size ((i + 1) * 6) (flat JbV.cells (xs.drop i))) := fun ty =>
    run_copy_jobs X1.drew ty V.heap.size ((i + 1) * 6) (n - i) (C - (i + 1)) ⟨g, i * 6, none⟩ (n - i) (n - i) (flat JbV.cells (xs.drop i)) (n - i) (by simp only [Nat.min_def]; split <;> omega) HDL.out
      (fun j v hj => by
        have hf : (flat JbV.cells xs)[i * 6 + j]? = some v := by rw [← List.getElem?_drop, flat_drop jb_len]; exact hj
        have := old1.cells (g := g) rfl _ _ hf
        rw [adr_add] at this ⊢
        rw [Nat.zero_add] at this
        exact this)
      (fun j hj => by rw [HDL.out] at hj; exact (own_there own1d (by omega)).1) (fun j hj => by rw [HDL.out] at hj; exact (own_there own1d (by omega)).2) h1c
  have HFIN : Hid ((X1.drew.setCells V.heap.size ((i + 1) * 6) (flat JbV.cells (xs.drop i))).ownsRow B 64 6 (.slice (some ⟨V.heap.size, 0, none⟩) (n + 1) C) (n + 1) (flat JbV.cells (insJ xs i ⟨jn, st, ta, tl, tc, aa, al, ac, asks, age, tasks, asked⟩)) ∧ V.grownBy (X1.drew.setCells V.heap.size ((i + 1) * 6) (flat JbV.cells (xs.drop i))) (some g)) := by
    have o2 := own_setCells (flat JbV.cells (xs.drop i)) ((i + 1) * 6) X1.drew _ own1d (by rw [HDL.out]; omega)
    rw [put_inJ2 ⟨jn, st, ta, tl, tc, aa, al, ac, asks, age, tasks, asked⟩ ys hl (by omega) hyl hyt] at o2
    have g2 := grown_trans gr1 (grown_trans (grown_below hD1 (some V.heap.size)) (grown_setCells V.heap.size (flat JbV.cells (xs.drop i)) ((i + 1) * 6) X1.drew))
    refine ⟨o2, ⟨g2.os.trans bX.os, g2.tape.trans bX.tape, g2.output.trans bX.output, Nat.le_trans bX.size g2.size, fun k hk _ => (g2.block k (Nat.lt_of_lt_of_le hk bX.size) (by simp; omega)).trans (bX.block k hk)⟩⟩
  have hz2 : ¬ ((i : Int) = (n : Int)) := by omega
  have hw1 : IntKind.i64.wrap ((i : Int) + 1) = (i : Int) + 1 := by rw [IntKind.wrap_i64]; omega
  have hw2 : IntKind.i64.wrap ((n : Int) + 1) = (n : Int) + 1 := by rw [IntKind.wrap_i64]; omega
  have hw3 : IntKind.i64.wrap ((n : Int) + 1 - (i : Int)) = (n : Int) + 1 - (i : Int) := by rw [IntKind.wrap_i64]; omega
  have hin : i ≤ n := by omega
  have hiC : i ≤ C := by omega
  have hi1C : i + 1 ≤ C := by omega
  have hb1 : (i : Int) ≤ (n : Int) := by omega
  have hb2 : ¬ C = i + 1 := by omega
  have hb3 : ¬ C = i := by omega
  have hb4 : ¬ n = i := by omega
  have hb5 : (n : Int) < (n : Int) + 1 := by omega
  have hb6 : (i : Int) + 1 ≤ (n : Int) + 1 := by omega
  have hb7 : (i : Int) ≤ (n : Int) + 1 := by omega
  have hb8 : i + 1 ≤ n + 1 := by omega
  have hin1 : i ≤ n + 1 := by omega
  have hnC : n + 1 ≤ C := by omega
  have hp0 : (0 : Int) ≤ (i : Int) + 1 := by omega
  have htn : ((i : Int) + 1).toNat = i + 1 := by omega
  clear hV own1 gr1 bx bxX hVd own1d old1 hD1 hD h1c hyl hyt h hVw bV hg hne hgne ownX bX hfl hj0 lz ls lb zV eC hl zX
  go_enter Tryz.func54, Tryz.ntmps54
  go_upto_region 10 with (at_builtin; go_loud (refine Go.Lib.wpList_append_run _ (by rfl) _ _ _ _ (by rfl) _ _ (by rfl) (by rfl) _ _ (hap _) ?_))
  go_upto_region 11 with (at_builtin; refine cp_wp (by rfl) _ _ 32 32 (by rfl) _ _ (by rfl) (by rfl) (hcp1 _) ?_)
  go_region_law (refine cp_step (by rfl) (.tmp 50) (.tmp 53) 32 32 (by rfl) (.slice (some ⟨V.heap.size, (i + 1) * 6, none⟩) (n - i) (C - (i + 1))) (.slice (some ⟨g, i * 6, none⟩) (n - i) (n - i)) (by simp [Act.eval, Act.put]) (by simp [Act.eval, Act.put]) (hcp2 _) ?_)
  all_goals
    go_wp2
    go_ret
    exact ⟨some ⟨V.heap.size, 0, none⟩, C, rfl, HFIN.out.1, HFIN.out.2, .inr rfl⟩
/-- slices.Insert, one item, whatever room there is. -/
theorem insertJ_any (B : Nat) (a : Option Addr) (n cap i : Nat) (xs : List JbV) (x : JbV) (w V : World) (hVw : V = w.alloc (.cells #[.int .i64 x.n, .int .i64 x.state, .slice x.ta x.tl x.tc, .slice x.aa x.al x.ac, .int .i64 x.asks, .int .i64 x.age] 64)) (h : w.ownsRow B 64 6 (.slice a n cap) n (flat JbV.cells xs)) (hB : B ≤ w.heap.size) (hi : i ≤ n) (hn : n ≤ 100) :
    Calls Tryz.prog 54 #[.slice a n cap, .int .i64 (i : Int), .slice (some ⟨w.heap.size, 0, none⟩) 1 1] V fun e w' => ∃ a' c', e = .returned (.slice a' (n + 1) c') ∧ w'.ownsRow B 64 6 (.slice a' (n + 1) c') (n + 1) (flat JbV.cells (insJ xs i x)) ∧ V.grownBy w' (Value.slice a n cap).ownBlock ∧ ((Value.slice a' (n + 1) c').ownBlock = (Value.slice a n cap).ownBlock ∨ (Value.slice a' (n + 1) c').ownBlock = some V.heap.size) := by
  by_cases hin : i = n
  · subst hin
    exact insertJ_end B a i cap xs x w V hVw h hB hn
  · have hlt : i < n := by omega
    have hform := h.2
    rcases hform with ⟨hv, h0⟩ | ⟨g, cap', cur, hv, _, _, h1, _⟩
    · omega
    · simp at hv
      obtain ⟨rfl, rfl⟩ := hv
      by_cases hroom : n + 1 ≤ cap
      · exact (insertJ_room B g n cap i xs x w V hVw h hlt hroom).mono fun e w' ⟨q1, q2, q3⟩ => ⟨_, _, q1, q2, q3, .inl rfl⟩
      · obtain rfl : cap = n := by omega
        exact insertJ_grow B g cap i xs x w V hVw h hB hlt hn
end Go.Proofs.YtekglahigjblkaaGreatDoor.Co
