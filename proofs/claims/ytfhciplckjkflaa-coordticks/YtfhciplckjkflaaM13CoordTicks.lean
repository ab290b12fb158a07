/- Texts of this claim, one behind the other. -/
import Derived.Test.YtfhciplckjkflaaM8CoordTicks
import Derived.Deep.RegionHeld3
import Derived.Deep.DeepCutAuto
import Derived.Test.YtfhciplckjkflaaM9CoordTicks
import Derived.Test.YtfhciplckjkflaaM4CoordTicks
import Derived.Test.YtfhciplckjkflaaM12CoordTicks
import Derived.Laws.IdiomCopy
import Derived.Lib.SliceRun
/- The contract of fresh.Store: the same in memory of its own, the four lists apart. -/
namespace Go.Proofs.Ytfhciplckjkflaa.St
open Go.ChangeShapes Go.WideShapes Go.ChangeAt Go.RowKit
set_option linter.unusedVariables false

theorem sD {W V : World} (h : Below W.heap.size W V) : Below W.heap.size W V.drew := h.drew
theorem sT {W V V' : World} (h : Below W.heap.size W V) (hb : Below V.heap.size V V') : Below W.heap.size W V' := h.trans (hb.mono h.size)
theorem sS {W V : World} {n i : Nat} (h : Below n W V) (v : Value) : Below n W (V.setCell ⟨n, i, none⟩ v) := h.setCell (p := ⟨n, i, none⟩) (Nat.le_refl _) v
theorem sGrown {w w' : World} (h : w.grownBy w' none) : Below w.heap.size w w' := (Below.refl w.heap.size w).grown h (Nat.le_refl _) (fun k hk => by cases hk)
theorem own_base {w : World} {b c : Nat} {e : TypeId} {size : Nat} {v : Value} {n : Nat} {xs : List Value} (h : w.ownsRow b e size v n xs) (hc : c ≤ b) : w.ownsRow c e size v n xs := by
  refine ⟨h.1, ?_⟩
  rcases h.2 with h2 | ⟨g, cap, cur, hv, hb, r⟩
  · exact .inl h2
  · exact .inr ⟨g, cap, cur, hv, Nat.le_trans hc hb, r⟩
theorem own_st {U : World} {W n : Nat} {e : TypeId} {size : Nat} {v : Value} {k : Nat} {xs : List Value} (hz : W = n + 2) (h : U.ownsRow W e size v k xs) (p0 p1 p2 p3 : Value) : ((((U.setCell ⟨n + 1, 0, none⟩ p0).setCell ⟨n + 1, 1, none⟩ p1).setCell ⟨n + 1, 2, none⟩ p2).setCell ⟨n + 1, 3, none⟩ p3).ownsRow n e size v k xs := by
  subst hz
  refine own_base (b := n + 2) ?_ (by omega)
  refine ownsRow_setCell_below (ownsRow_setCell_below (ownsRow_setCell_below (ownsRow_setCell_below h ?_ _) ?_ _) ?_ _) ?_ _
  all_goals exact Nat.lt_succ_self _
theorem fin_st {w W U : World} (hB : Below w.heap.size w W) (h : Below W.heap.size W U) (p0 p1 p2 p3 : Value) : Below w.heap.size w ((((U.setCell ⟨w.heap.size + 1, 0, none⟩ p0).setCell ⟨w.heap.size + 1, 1, none⟩ p1).setCell ⟨w.heap.size + 1, 2, none⟩ p2).setCell ⟨w.heap.size + 1, 3, none⟩ p3) := by
  refine Below.setCell (Below.setCell (Below.setCell (Below.setCell (hB.trans (h.mono hB.size)) ?_ _) ?_ _) ?_ _) ?_ _
  all_goals exact Nat.le_succ _
/-- Two rows that do not share their block. -/
def Apart (x y : Value) : Prop := ∀ m, x.ownBlock = some m → y.ownBlock ≠ some m
theorem Apart.symm {x y : Value} (h : Apart x y) : Apart y x := fun m hy hx => h m hx hy
theorem apart_of {x y : Value} {u W : World} (h1 : ∀ m, x.ownBlock = some m → m < u.heap.size) (at2 : y.ownBlock = (Value.slice none 0 0).ownBlock ∨ y.ownBlock = some W.heap.size) (hb : Below u.heap.size u W) : Apart x y := fun m hx hy => by
  have h2 := h1 m hx
  have h3 := hb.size
  rcases at2 with h | h <;> rw [h] at hy
  · simp [Value.ownBlock] at hy
  · simp at hy; omega
def SV.same (s r : SV) : Prop := r.items = s.items ∧ r.locks = s.locks ∧ r.doubts = s.doubts ∧ r.over = s.over ∧ r.il = s.il ∧ r.ll = s.ll ∧ r.dl = s.dl ∧ r.ol = s.ol

theorem it_len (x : ItV) : (ItV.cells x).length = 3 := rfl
theorem it_one (y : ItV) : ∀ u ∈ ItV.cells y, u.oneCell' = true := by
  intro u hu
  simp [ItV.cells] at hu
  rcases hu with h | h | h <;> subst h <;> rfl
theorem db_len (x : DbV) : (DbV.cells x).length = 3 := rfl
theorem db_one (y : DbV) : ∀ u ∈ DbV.cells y, u.oneCell' = true := by
  intro u hu
  simp [DbV.cells] at hu
  rcases hu with h | h | h <;> subst h <;> rfl
theorem tx_len (x : Int × Int) : (txCells x).length = 2 := rfl
theorem tx_one (y : Int × Int) : ∀ u ∈ txCells y, u.oneCell' = true := by
  intro u hu
  simp [txCells] at hu
  rcases hu with h | h <;> subst h <;> rfl
theorem txInfo : (Try.prog.info? 67).map (fun i => (i.zero, i.size, i.bytes)) = some (some (.agg #[.int .i64 0, .int .i64 0]), 2, 16) := by kernel_rfl
end Go.Proofs.Ytfhciplckjkflaa.St
/- A store's plain data; what a call owns of a store is a store; one list put in another's place. -/
namespace Go.Proofs.Ytfhciplckjkflaa.St
open Go.ChangeShapes Go.WideShapes Go.ChangeAt Go.RowKit
set_option linter.unusedVariables false

structure PS where
  items : List ItV
  locks : List LkV
  doubts : List DbV
  over : List (Int × Int)
def SV.data (s : SV) : PS := ⟨s.items, s.locks, s.doubts, s.over⟩
def SV.nil : SV := ⟨none, 0, 0, none, 0, 0, none, 0, 0, none, 0, 0, [], [], [], []⟩
theorem isStore_nil (w : World) : IsStore w SV.nil := ⟨isRow_nil _ _ _, isRow_nil _ _ _, isRow_nil _ _ _, isRow_nil _ _ _⟩
theorem same_data {s r : SV} (h : s.same r) : r.data = s.data := by
  obtain ⟨h1, h2, h3, h4, _⟩ := h
  simp [SV.data, h1, h2, h3, h4]
theorem own_len {α : Type} {cells : α → List Value} {k : Nat} (hk : ∀ x, (cells x).length = k) (hp : 0 < k) {w : World} {B : Nat} {te : TypeId} {v : Value} {n : Nat} {xs : List α} (h : w.ownsRow B te k v n (flat cells xs)) : xs.length = n := by
  have h1 := h.1
  rw [flat_len hk] at h1
  exact Nat.eq_of_mul_eq_mul_right hp h1
theorem apart_l {x y : Value} (h : Apart x y) : x.ownBlock = none ∨ x.ownBlock ≠ y.ownBlock := by
  cases e : x.ownBlock with
  | none => exact .inl rfl
  | some m => exact .inr fun e2 => h m e e2.symm
theorem apart_r {x y : Value} (h : Apart x y) : y.ownBlock = none ∨ y.ownBlock ≠ x.ownBlock := apart_l h.symm
theorem apart_new {w : World} {B : Nat} {te : TypeId} {k n : Nat} {x x' y : Value} {ys : List Value} (h : Apart x y) (hy : w.ownsRow B te k y n ys) (hat : ∀ m, x'.ownBlock = some m → x.ownBlock = some m ∨ w.heap.size ≤ m) : Apart x' y := by
  intro m h1 h2
  rcases hat m h1 with h3 | h3
  · exact h m h3 h2
  · have := (hy.lt m h2).2
    omega
theorem at_of {w : World} {x x' : Value} {n : Nat} (h : x'.ownBlock = x.ownBlock ∨ x'.ownBlock = some n) (hn : w.heap.size ≤ n) : ∀ m, x'.ownBlock = some m → x.ownBlock = some m ∨ w.heap.size ≤ m := by
  intro m hm
  rcases h with h1 | h1
  · exact .inl (h1 ▸ hm)
  · rw [h1] at hm
    simp at hm
    exact .inr (by omega)
end Go.Proofs.Ytfhciplckjkflaa.St
/- The contracts of slices.DeleteFunc at locks and doubts: of a row of the caller's own, what is meant taken out, in its place. -/
namespace Go.Proofs.Ytfhciplckjkflaa.Co
open Go.ChangeShapes Go.WideShapes Go.ChangeAt Go.RowKit
open Go.Proofs.Ytfhciplckjkflaa.St
set_option linter.unusedVariables false

/-- A function value that answers a question about an element, whatever became of that one block. -/
def AsksG {α : Type} (fn : Nat) (cps : Array Value) (val : α → Value) (p : α → Bool) (row : Option Nat) (w : World) : Prop :=
  Enters Try.prog fn ∧ ∀ (x : α) (w' : World), w.grownBy w' row → Calls Try.prog fn (#[val x] ++ cps) w' fun e w'' => e = .returned (.bool (p x)) ∧ Below w'.heap.size w' w''
theorem AsksG.asks {α : Type} {fn : Nat} {cps : Array Value} {val : α → Value} {p : α → Bool} {row : Option Nat} {w : World} (h : AsksG fn cps val p row w) : Asks fn cps val p w :=
  ⟨h.1, fun x u hu => h.2 x u (grown_below hu row)⟩
theorem mem_zeroCells {z : Array Value} {n : Nat} {v : Value} (h : v ∈ (Builtin.zeroCells z n).toList) : v ∈ z.toList := by
  simp only [Builtin.zeroCells, Array.toList_map, List.mem_map, Array.toList_range, List.mem_range] at h
  obtain ⟨i, hi, rfl⟩ := h
  have hz : 0 < z.size := by
    rcases Nat.eq_zero_or_pos z.size with e | e
    · rw [e] at hi; simp at hi
    · exact e
  have hm : i % z.size < z.size := Nat.mod_lt _ hz
  rw [getElem!_pos z _ hm]
  simp
theorem setL_pre (xs vs : List Value) (o : Nat) (h : o + vs.length ≤ xs.length) : (setL xs o vs).take o = xs.take o := by
  rw [setL_eq _ _ _ h, List.append_assoc, List.take_append_of_le_length (by rw [List.length_take]; omega), List.take_take, Nat.min_self]
def keep {α : Type} (p : α → Bool) (xs : List α) : List α := xs.filter (fun x => !(p x))
theorem keep_all {α : Type} [Inhabited α] {p : α → Bool} {xs : List α} (h : idxI p xs = -1) : keep p xs = xs := by
  unfold keep
  rw [List.filter_eq_self]
  intro x hx
  have : xs.any p = false := by rw [← idxI_any, h]; rfl
  have := List.any_eq_false.1 this x hx
  simpa using this
theorem keep_at {α : Type} [Inhabited α] {p : α → Bool} {xs : List α} {j : Nat} (hj : j < xs.length) : keep p (xs.take (j + 1)) = keep p (xs.take j) ++ (if p (xs.getD j default) then [] else [xs.getD j default]) := by
  unfold keep
  rw [take_at hj, List.filter_append]
  congr 1
  generalize xs.getD j default = x
  cases h : p x <;> simp [h]
theorem keep_idx {α : Type} [Inhabited α] {p : α → Bool} {xs : List α} {i : Nat} (h : idxI p xs = (i : Int)) : i < xs.length ∧ keep p (xs.take (i + 1)) = xs.take i := by
  unfold idxI at h
  cases e : xs.findIdx? p with
  | none => rw [e] at h; simp at h
  | some k =>
    rw [e] at h
    simp at h
    obtain rfl : k = i := by omega
    rw [List.findIdx?_eq_some_iff_getElem] at e
    obtain ⟨hk, hp, hn⟩ := e
    refine ⟨hk, ?_⟩
    rw [keep_at hk]
    have : p (xs.getD k default) = true := by simpa [List.getD, hk] using hp
    rw [this]
    simp only [↓reduceIte, List.append_nil]
    unfold keep
    rw [List.filter_eq_self]
    intro x hx
    obtain ⟨q, hq, rfl⟩ := List.getElem_of_mem hx
    simp only [List.length_take] at hq
    have := hn q (by omega)
    simpa using this

theorem run_clear_job (w : World) (ty : TypeId) (b o m c : Nat) (h0 : 0 < m) (hc : ∀ j, j < m * 6 → (w.cell? ⟨b, o + j, none⟩).isSome = true ∧ w.frozen? ⟨b, o + j, none⟩ = false) :
    (Builtin.zeroCells (Value.cells (.agg #[.int .i64 0, .int .i64 0, .slice none 0 0, .slice none 0 0, .int .i64 0, .int .i64 0])) m).toList.length = m * 6 ∧ (Builtin.clear_ #[25] ty #[.slice (some ⟨b, o, none⟩) m c]).run Try.prog w = .ok (.tuple #[]) (w.setCells b o (Builtin.zeroCells (Value.cells (.agg #[.int .i64 0, .int .i64 0, .slice none 0 0, .slice none 0 0, .int .i64 0, .int .i64 0])) m).toList) := by
  have hv : ∀ w, (zeroValue 47).run Try.prog w = .ok (.agg #[.int .i64 0, .int .i64 0, .slice none 0 0, .slice none 0 0, .int .i64 0, .int .i64 0]) w := fun w => by
    exact Try.zeroValue47 w
  have hl : (Builtin.zeroCells (Value.cells (.agg #[.int .i64 0, .int .i64 0, .slice none 0 0, .slice none 0 0, .int .i64 0, .int .i64 0])) m).toList.length = m * 6 := by
    rw [Array.length_toList, size_zeroCells]
    rfl
  refine ⟨hl, ?_⟩
  have hst := run_storeCells_cells (P := Try.prog) b o (Builtin.zeroCells (Value.cells (.agg #[.int .i64 0, .int .i64 0, .slice none 0 0, .slice none 0 0, .int .i64 0, .int .i64 0])) m).toList 0 w (fun j hj => (hc j (by rw [hl] at hj; exact hj)).1) (fun j hj => (hc j (by rw [hl] at hj; exact hj)).2) (by
    intro v hv'
    have := mem_zeroCells hv'
    simp [Value.cells] at this
    rcases this with h | h | h <;> subst h <;> rfl)
  simp only [Nat.add_zero] at hst
  obtain ⟨q, rfl⟩ : ∃ q, m = q + 1 := ⟨m - 1, by omega⟩
  simp [Builtin.clear_, run_underlying Try.underlying25, hv, hst]


set_option maxRecDepth 100000 in
set_option maxHeartbeats 4000000 in
theorem deleteJob_any (fn : Nat) (cps : Array Value) (p : JbV → Bool) (B : Nat) (a : Option Addr) (n cap : Nat) (xs : List JbV) (w : World) (h : w.ownsRow B 47 6 (.slice a n cap) n (flat JbV.cells xs)) (hF : AsksG fn cps JbV.val p (Value.slice a n cap).ownBlock w) :
    Calls Try.prog 75 #[.slice a n cap, .func (.func fn) #[] cps] w fun e w' => e = .returned (.slice a (keep p xs).length cap) ∧ w'.ownsRow B 47 6 (.slice a (keep p xs).length cap) (keep p xs).length (flat JbV.cells (keep p xs)) ∧ w.grownBy w' (Value.slice a n cap).ownBlock := by
  have hl := own_len jb_len (by decide) h
  obtain ⟨hrow, _⟩ := own_isRow jb_len h hl
  have hIx := fun w' h1 h2 => indexJob_any fn cps p a n cap xs w' h1 h2
  obtain ⟨i0, e0⟩ : ∃ R, R = idxI p xs := ⟨_, rfl⟩
  have hi0 := idxI_lt (p := p) (l := xs)
  rw [← e0] at hIx hi0
  by_cases hneg : i0 = -1
  · have hk := keep_all (p := p) (xs := xs) (by rw [← e0]; exact hneg)
    rw [hk, hl]
    subst hneg
    clear e0 hk
    have hA := hF.asks
    go_enter Try.func75, Try.ntmps75
    go_wp2_with (go_at_call 45; refine (hIx _ hrow hA).mono ?_; rintro e w1 ⟨rfl, hb1⟩)
    go_ret
    exact ⟨rfl, own_below h hb1, grown_below hb1 _⟩
  · obtain ⟨i1, rfl⟩ : ∃ i1 : Nat, i0 = (i1 : Int) := ⟨i0.toNat, by omega⟩
    obtain ⟨hi1, hk1⟩ := keep_idx (p := p) (xs := xs) e0.symm
    clear e0 hneg hi0
    rw [hl] at hi1
    obtain ⟨g, off, rfl, _, _⟩ := hrow.2.2.2.2 (by omega)
    have hoff : off = 0 := by
      rcases h.2 with ⟨hv, _⟩ | ⟨g', cap', cur, hv, _⟩
      · simp at hv
      · simp at hv; exact hv.1.2
    subst hoff
    have hcm : n ≤ cap ∧ cap ≤ maxLen := ⟨hrow.2.1, hrow.2.2.1⟩
    unfold maxLen at hcm
    have HK1 : Hid (keep p (xs.take (i1 + 1)) = xs.take i1) := hk1
    have HL : Hid (xs.length = n) := hl
    have hA := hF.asks
    obtain ⟨hEn, hFg⟩ := hF
    have HFG : Hid (∀ (x : JbV) (w' : World), w.grownBy w' (some g) → Calls Try.prog fn (#[JbV.val x] ++ cps) w' fun e w'' => e = .returned (.bool (p x)) ∧ Below w'.heap.size w' w'') := hFg
    unfold Enters at hEn
    clear hl hk1 hFg
    have hgl := h.lt g rfl
    obtain ⟨YS, eYS⟩ : ∃ YS, YS = keep p xs := ⟨_, rfl⟩
    have HYS : Hid (YS = keep p (xs.take n)) := by show _ = _; rw [eYS, List.take_of_length_le (by rw [HL.out]; exact Nat.le_refl _)]
    rw [← eYS]
    clear eYS
    have hm1 : ((i1 : Int) == -1) = false := by rw [beq_eq_false_iff_ne]; omega
    go_enter Try.func75, Try.ntmps75
    go_upto_region 5 with (go_at_call 45; refine (hIx _ hrow hA).mono ?_; rintro e w1 ⟨rfl, hb1⟩)
    have hg1 : w.grownBy w1 (some g) := grown_below hb1 _
    have own1 := own_below h hb1
    clear hA hIx hrow
    go_loopw [5, 6, 7] (fun s5 s6 _ wr => ∃ (i j : Nat) (L : List JbV), s5 = .int .i64 (i : Int) ∧ s6 = .int .i64 (j : Int) ∧ i < j ∧ j ≤ n ∧ wr.ownsRow B 47 6 (.slice (some ⟨g, 0, none⟩) n cap) n (flat JbV.cells L) ∧ Hid (L.take i = keep p (xs.take j)) ∧ Hid (L.drop j = xs.drop j) ∧ w.grownBy wr (some g)) (fun _ s6 _ _ => n - (intOf s6).toNat)
    case atStart => exact ⟨i1, i1 + 1, xs, rfl, by go_num, by omega, by omega, own1, HK1.out.symm, rfl, hg1⟩
    case round =>
      obtain ⟨i, j, L, rfl, rfl, hij, hjn, hown, hTk, hDr, hgr⟩ := hrel
      have hLl := own_len jb_len (by decide) hown
      have HLL : Hid (L.length = n) := hLl
      clear hLl
      by_cases hlt : j < n
      · have hlt' : (j : Int) < (n : Int) := by omega
        have HX : Hid (L.getD j default = xs.getD j default) := by
          show _ = _
          have h1 : j < L.length := by rw [HLL.out]; exact hlt
          have h2 : j < xs.length := by rw [HL.out]; exact hlt
          have h3 := hDr.out
          rw [drop_at h1, drop_at h2] at h3
          simp at h3
          simpa [List.getD] using h3.1
        have HD1 : Hid (L.drop (j + 1) = xs.drop (j + 1)) := by
          show _ = _
          have h3 := congrArg (List.drop 1) hDr.out
          simpa [List.drop_drop] using h3
        have HKA : Hid (keep p (xs.take (j + 1)) = L.take i ++ (if p (xs.getD j default) then [] else [xs.getD j default])) := by show _ = _; rw [hTk.out]; exact keep_at (by rw [HL.out]; exact hlt)
        obtain ⟨hrw, _⟩ := own_isRow jb_len hown HLL.out
        obtain ⟨b', off', e', zb, hc⟩ := hrw.2.2.2.2 (by omega)
        simp at e'
        obtain ⟨rfl, rfl⟩ := e'
        have hcells := hc j hlt
        rw [HX.out] at hcells
        have hcall := HFG.out (xs.getD j default)
        obtain ⟨x, ex⟩ : ∃ x, x = xs.getD j default := ⟨_, rfl⟩
        rw [← ex] at hcells HKA hcall
        clear ex hc hrw
        obtain ⟨q0, q1, ta, tl, tc, aa, al, ac, q4, q5, tasks, asked⟩ := x
        have a0 := hcells 0 (by decide)
        have a1 := hcells 1 (by decide)
        have a2 := hcells 2 (by decide)
        have a3 := hcells 3 (by decide)
        have a4 := hcells 4 (by decide)
        have a5 := hcells 5 (by decide)
        simp only [JbV.cells, List.getElem?_cons_zero, List.getElem?_cons_succ, Nat.add_zero, Nat.zero_add] at a0 a1 a2 a3 a4 a5
        clear hcells
        simp only [JbV.val] at hcall
        obtain ⟨P, eP⟩ : ∃ P, P = p ⟨q0, q1, ta, tl, tc, aa, al, ac, q4, q5, tasks, asked⟩ := ⟨_, rfl⟩
        rw [← eP] at HKA hcall
        clear eP
        obtain ⟨V0, hV0⟩ : ∃ V0 : World, V0 = wr.alloc (.cells #[.int .i64 q0, .int .i64 q1, .slice ta tl tc, .slice aa al ac, .int .i64 q4, .int .i64 q5] 47) := ⟨_, rfl⟩
        have bV0 : Below wr.heap.size wr V0 := by rw [hV0]; exact (Below.refl _ _).alloc (Nat.le_refl _) _
        have bx := boxn_new wr #[.int .i64 q0, .int .i64 q1, .slice ta tl tc, .slice aa al ac, .int .i64 q4, .int .i64 q5] 47 6 rfl
        rw [← hV0] at bx
        have hgV0 : w.grownBy V0 (some g) := grown_trans hgr (grown_below bV0 _)
        go_upto_region 8 with (fail)
        rw [← hV0]
        clear hV0 a0 a1 a2 a3 a4 a5
        have b0 := (bx.c 0 (by decide)).1
        have b1 := (bx.c 1 (by decide)).1
        have b2 := (bx.c 2 (by decide)).1
        have b3 := (bx.c 3 (by decide)).1
        have b4 := (bx.c 4 (by decide)).1
        have b5 := (bx.c 5 (by decide)).1
        simp only [List.getD_cons_zero, List.getD_cons_succ] at b0 b1 b2 b3 b4 b5
        have bxl := bx.lt
        have hgw : g < wr.heap.size := (hown.lt g rfl).2
        cases P with
        | true =>
          have HKB : Hid (L.take i = keep p (xs.take (j + 1))) := by show _ = _; rw [HKA.out]; simp
          go_wp2_with (go_at_fn fn; refine (hcall _ hgV0).mono ?_; rintro e V ⟨rfl, hbV⟩)
          go_roundw
          case rel => exact ⟨i, j + 1, L, rfl, by go_num, by omega, by omega, own_below (own_below hown bV0) hbV, HKB, HD1, grown_trans hgV0 (grown_below hbV _)⟩
          case measure => simp [intOf]; omega
        | false =>
          have HKB : Hid ((L.set i ⟨q0, q1, ta, tl, tc, aa, al, ac, q4, q5, tasks, asked⟩).take (i + 1) = keep p (xs.take (j + 1))) := by
            show _ = _
            have h1 : i < L.length := by rw [HLL.out]; omega
            rw [HKA.out, List.take_succ_eq_append_getElem (by simpa using h1), List.take_set_of_le (Nat.le_refl _)]
            simp
          have HDB : Hid ((L.set i ⟨q0, q1, ta, tl, tc, aa, al, ac, q4, q5, tasks, asked⟩).drop (j + 1) = xs.drop (j + 1)) := by
            show _ = _
            rw [List.drop_set_of_lt (by omega)]
            exact HD1.out
          go_upto_region 9 with (go_at_fn fn; refine (hcall _ hgV0).mono ?_; rintro e V ⟨rfl, hbV⟩)
          have ownV := own_below (own_below hown bV0) hbV
          have bxV := bx.below hbV bx.lt
          clear b0 b1 b2 b3 b4 b5 bxl
          have b0 := (bxV.c 0 (by decide)).1
          have b1 := (bxV.c 1 (by decide)).1
          have b2 := (bxV.c 2 (by decide)).1
          have b3 := (bxV.c 3 (by decide)).1
          have b4 := (bxV.c 4 (by decide)).1
          have b5 := (bxV.c 5 (by decide)).1
          simp only [List.getD_cons_zero, List.getD_cons_succ] at b0 b1 b2 b3 b4 b5
          have bxl := bxV.lt
          have hgV : w.grownBy V (some g) := grown_trans hgV0 (grown_below hbV _)
          have hin : (i : Int) < (n : Int) := by omega
          have hth : ∀ q, q < 6 → (V.cell? ⟨g, i * 6 + q, none⟩).isSome = true ∧ V.frozen? ⟨g, i * 6 + q, none⟩ = false := fun q hq => own_there ownV (by omega)
          obtain ⟨u0, e0⟩ := Option.isSome_iff_exists.1 (hth 0 (by decide)).1
          have z0 := (hth 0 (by decide)).2
          obtain ⟨u1, e1⟩ := Option.isSome_iff_exists.1 (hth 1 (by decide)).1
          have z1 := (hth 1 (by decide)).2
          obtain ⟨u2, e2⟩ := Option.isSome_iff_exists.1 (hth 2 (by decide)).1
          have z2 := (hth 2 (by decide)).2
          obtain ⟨u3, e3⟩ := Option.isSome_iff_exists.1 (hth 3 (by decide)).1
          have z3 := (hth 3 (by decide)).2
          obtain ⟨u4, e4⟩ := Option.isSome_iff_exists.1 (hth 4 (by decide)).1
          have z4 := (hth 4 (by decide)).2
          obtain ⟨u5, e5⟩ := Option.isSome_iff_exists.1 (hth 5 (by decide)).1
          have z5 := (hth 5 (by decide)).2
          simp only [Nat.add_zero] at e0 z0
          clear hth
          have own2 := own_setCells (JbV.cells ⟨q0, q1, ta, tl, tc, aa, al, ac, q4, q5, tasks, asked⟩) (i * 6) V _ ownV (by rw [jb_len]; omega)
          rw [flat_setL jb_len _ _ (by rw [HLL.out]; omega)] at own2
          have gr2 := grown_setCells g (JbV.cells ⟨q0, q1, ta, tl, tc, aa, al, ac, q4, q5, tasks, asked⟩) (i * 6) V
          obtain ⟨U, hU⟩ : ∃ U : World, U = ((((((V.setCell ⟨g, i * 6, none⟩ (.int .i64 q0)).setCell ⟨g, i * 6 + 1, none⟩ (.int .i64 q1)).setCell ⟨g, i * 6 + 2, none⟩ (.slice ta tl tc)).setCell ⟨g, i * 6 + 3, none⟩ (.slice aa al ac)).setCell ⟨g, i * 6 + 4, none⟩ (.int .i64 q4)).setCell ⟨g, i * 6 + 5, none⟩ (.int .i64 q5)) := ⟨_, rfl⟩
          have own3 : U.ownsRow B 47 6 (.slice (some ⟨g, 0, none⟩) n cap) n (flat JbV.cells (L.set i ⟨q0, q1, ta, tl, tc, aa, al, ac, q4, q5, tasks, asked⟩)) := by rw [hU]; exact own2
          have gr3 : w.grownBy U (some g) := by rw [hU]; exact grown_trans hgV gr2
          clear own2 gr2
          go_upto_region 10 with (fail)
          rw [← hU]
          clear hU
          go_wp2
          go_roundw
          case rel => exact ⟨i + 1, j + 1, L.set i ⟨q0, q1, ta, tl, tc, aa, al, ac, q4, q5, tasks, asked⟩, by go_num, by go_num, by omega, by omega, own3, HKB, HDB, gr3⟩
          case measure => simp [intOf]; omega
      · obtain rfl : n = j := by omega
        have HYL : Hid (YS.length = i ∧ YS = L.take i) := by
          have h1 : YS = L.take i := by rw [HYS.out, hTk.out]
          refine ⟨?_, h1⟩
          rw [h1, List.length_take, HLL.out]
          omega
        have hcq : ∀ q, q < (n - i) * 6 → (wr.cell? ⟨g, i * 6 + q, none⟩).isSome = true ∧ wr.frozen? ⟨g, i * 6 + q, none⟩ = false := fun q hq => own_there hown (by rw [Nat.sub_mul] at hq; omega)
        have hcl := fun ty c => (run_clear_job wr ty g (i * 6) (n - i) c (by omega) hcq).2
        have HVL : Hid ((Builtin.zeroCells (Value.cells (.agg #[.int .i64 0, .int .i64 0, .slice none 0 0, .slice none 0 0, .int .i64 0, .int .i64 0])) (n - i)).toList.length = (n - i) * 6) := (run_clear_job wr 0 g (i * 6) (n - i) 0 (by omega) hcq).1
        obtain ⟨vs, evs⟩ : ∃ vs, vs = (Builtin.zeroCells (Value.cells (.agg #[.int .i64 0, .int .i64 0, .slice none 0 0, .slice none 0 0, .int .i64 0, .int .i64 0])) (n - i)).toList := ⟨_, rfl⟩
        rw [← evs] at HVL
        simp only [← evs] at hcl
        clear evs hcq
        have hic : i ≤ cap := by omega
        have hin : i ≤ n := by omega
        have hne : ¬ cap = i := by omega
        have hin' : (i : Int) ≤ (n : Int) := by omega
        have hnc : n ≤ cap := by omega
        have HFIN : Hid ((wr.setCells g (i * 6) vs).ownsRow B 47 6 (.slice (some ⟨g, 0, none⟩) i cap) i (flat JbV.cells (L.take i)) ∧ w.grownBy (wr.setCells g (i * 6) vs) (some g)) := by
          have hX : (flat JbV.cells L).length = n * 6 := by rw [flat_len jb_len, HLL.out]
          have hfit : i * 6 + vs.length ≤ n * 6 := by rw [HVL.out, ← Nat.add_mul]; exact Nat.mul_le_mul_right _ (by omega)
          have o1 := own_prefix (own_setCells vs (i * 6) wr _ hown hfit) (k := i) (by omega) (by omega)
          rw [setL_pre _ _ _ (by rw [hX]; exact hfit), flat_take jb_len] at o1
          exact ⟨o1, grown_trans hgr (grown_setCells g vs (i * 6) wr)⟩
        go_wp2
        go_ret
        obtain ⟨y1, y2⟩ := HYL.out
        rw [y1, y2]
        exact ⟨rfl, HFIN.out.1, HFIN.out.2⟩

end Go.Proofs.Ytfhciplckjkflaa.Co
