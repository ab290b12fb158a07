/- Texts of this claim, one behind the other. -/
import Derived.Test.YtdjnaahkcnklhabDoorM6CommitAsks
import Derived.Test.YtdjnaahkcnklhabDoorM11CommitAsks
import Derived.Test.YtdjnaahkcnklhabDoorM10CommitAsks
import Derived.Laws.IdiomCopy
import Derived.Lib.SliceRun
/- A store's plain data; what a call owns of a store is a store; one list put in another's place. -/
namespace Go.Proofs.YtdjnaahkcnklhabDoor.St
open Go.ChangeShapes Go.WideShapes Go.ChangeAt Go.RowKit
set_option linter.unusedVariables false

structure PS where
  items : List ItV
  locks : List LkV
  doubts : List DbV
  over : List (Int × Int)
def SV.data (s : SV) : PS := ⟨s.items, s.locks, s.doubts, s.over⟩
def SV.nil : SV := ⟨none, 0, 0, none, 0, 0, none, 0, 0, none, 0, 0, [], [], [], []⟩
theorem isStore_nil (w : World) : IsStore w SV.nil := ⟨isRow_nil _ _ _, isRow_nil _ _ _, isRow_nil _ _ _, isRow_nil _ _ _⟩
theorem same_data {s r : SV} (h : s.same r) : r.data = s.data := by
  obtain ⟨h1, h2, h3, h4, _⟩ := h
  simp [SV.data, h1, h2, h3, h4]
theorem own_len {α : Type} {cells : α → List Value} {k : Nat} (hk : ∀ x, (cells x).length = k) (hp : 0 < k) {w : World} {B : Nat} {te : TypeId} {v : Value} {n : Nat} {xs : List α} (h : w.ownsRow B te k v n (flat cells xs)) : xs.length = n := by
  have h1 := h.1
  rw [flat_len hk] at h1
  exact Nat.eq_of_mul_eq_mul_right hp h1
theorem apart_l {x y : Value} (h : Apart x y) : x.ownBlock = none ∨ x.ownBlock ≠ y.ownBlock := by
  cases e : x.ownBlock with
  | none => exact .inl rfl
  | some m => exact .inr fun e2 => h m e e2.symm
theorem apart_r {x y : Value} (h : Apart x y) : y.ownBlock = none ∨ y.ownBlock ≠ x.ownBlock := apart_l h.symm
theorem apart_new {w : World} {B : Nat} {te : TypeId} {k n : Nat} {x x' y : Value} {ys : List Value} (h : Apart x y) (hy : w.ownsRow B te k y n ys) (hat : ∀ m, x'.ownBlock = some m → x.ownBlock = some m ∨ w.heap.size ≤ m) : Apart x' y := by
  intro m h1 h2
  rcases hat m h1 with h3 | h3
  · exact h m h3 h2
  · have := (hy.lt m h2).2
    omega
theorem at_of {w : World} {x x' : Value} {n : Nat} (h : x'.ownBlock = x.ownBlock ∨ x'.ownBlock = some n) (hn : w.heap.size ≤ n) : ∀ m, x'.ownBlock = some m → x.ownBlock = some m ∨ w.heap.size ≤ m := by
  intro m hm
  rcases h with h1 | h1
  · exact .inl (h1 ▸ hm)
  · rw [h1] at hm
    simp at hm
    exact .inr (by omega)
end Go.Proofs.YtdjnaahkcnklhabDoor.St
/- The contracts of slices.DeleteFunc at locks and doubts: of a row of the caller's own, what is meant taken out, in its place. -/
namespace Go.Proofs.YtdjnaahkcnklhabDoor.Co
open Go.ChangeShapes Go.WideShapes Go.ChangeAt Go.RowKit
open Go.Proofs.YtdjnaahkcnklhabDoor.St
set_option linter.unusedVariables false

/-- A function value that answers a question about an element, whatever became of that one block. -/
def AsksG {α : Type} (fn : Nat) (cps : Array Value) (val : α → Value) (p : α → Bool) (row : Option Nat) (w : World) : Prop :=
  Enters Tryd.prog fn ∧ ∀ (x : α) (w' : World), w.grownBy w' row → Calls Tryd.prog fn (#[val x] ++ cps) w' fun e w'' => e = .returned (.bool (p x)) ∧ Below w'.heap.size w' w''
theorem AsksG.asks {α : Type} {fn : Nat} {cps : Array Value} {val : α → Value} {p : α → Bool} {row : Option Nat} {w : World} (h : AsksG fn cps val p row w) : Asks fn cps val p w :=
  ⟨h.1, fun x u hu => h.2 x u (grown_below hu row)⟩
theorem mem_zeroCells {z : Array Value} {n : Nat} {v : Value} (h : v ∈ (Builtin.zeroCells z n).toList) : v ∈ z.toList := by
  simp only [Builtin.zeroCells, Array.toList_map, List.mem_map, Array.toList_range, List.mem_range] at h
  obtain ⟨i, hi, rfl⟩ := h
  have hz : 0 < z.size := by
    rcases Nat.eq_zero_or_pos z.size with e | e
    · rw [e] at hi; simp at hi
    · exact e
  have hm : i % z.size < z.size := Nat.mod_lt _ hz
  rw [getElem!_pos z _ hm]
  simp
theorem setL_pre (xs vs : List Value) (o : Nat) (h : o + vs.length ≤ xs.length) : (setL xs o vs).take o = xs.take o := by
  rw [setL_eq _ _ _ h, List.append_assoc, List.take_append_of_le_length (by rw [List.length_take]; omega), List.take_take, Nat.min_self]
def keep {α : Type} (p : α → Bool) (xs : List α) : List α := xs.filter (fun x => !(p x))
theorem keep_all {α : Type} [Inhabited α] {p : α → Bool} {xs : List α} (h : idxI p xs = -1) : keep p xs = xs := by
  unfold keep
  rw [List.filter_eq_self]
  intro x hx
  have : xs.any p = false := by rw [← idxI_any, h]; rfl
  have := List.any_eq_false.1 this x hx
  simpa using this
theorem keep_at {α : Type} [Inhabited α] {p : α → Bool} {xs : List α} {j : Nat} (hj : j < xs.length) : keep p (xs.take (j + 1)) = keep p (xs.take j) ++ (if p (xs.getD j default) then [] else [xs.getD j default]) := by
  unfold keep
  rw [take_at hj, List.filter_append]
  congr 1
  generalize xs.getD j default = x
  cases h : p x <;> simp [h]
theorem keep_idx {α : Type} [Inhabited α] {p : α → Bool} {xs : List α} {i : Nat} (h : idxI p xs = (i : Int)) : i < xs.length ∧ keep p (xs.take (i + 1)) = xs.take i := by
  unfold idxI at h
  cases e : xs.findIdx? p with
  | none => rw [e] at h; simp at h
  | some k =>
    rw [e] at h
    simp at h
    obtain rfl : k = i := by omega
    rw [List.findIdx?_eq_some_iff_getElem] at e
    obtain ⟨hk, hp, hn⟩ := e
    refine ⟨hk, ?_⟩
    rw [keep_at hk]
    have : p (xs.getD k default) = true := by simpa [List.getD, hk] using hp
    rw [this]
    simp only [↓reduceIte, List.append_nil]
    unfold keep
    rw [List.filter_eq_self]
    intro x hx
    obtain ⟨q, hq, rfl⟩ := List.getElem_of_mem hx
    simp only [List.length_take] at hq
    have := hn q (by omega)
    simpa using this

theorem run_clear_job (w : World) (ty : TypeId) (b o m c : Nat) (h0 : 0 < m) (hc : ∀ j, j < m * 6 → (w.cell? ⟨b, o + j, none⟩).isSome = true ∧ w.frozen? ⟨b, o + j, none⟩ = false) :
    (Builtin.zeroCells (Value.cells (.agg #[.int .i64 0, .int .i64 0, .slice none 0 0, .slice none 0 0, .int .i64 0, .int .i64 0])) m).toList.length = m * 6 ∧ (Builtin.clear_ #[27] ty #[.slice (some ⟨b, o, none⟩) m c]).run Tryd.prog w = .ok (.tuple #[]) (w.setCells b o (Builtin.zeroCells (Value.cells (.agg #[.int .i64 0, .int .i64 0, .slice none 0 0, .slice none 0 0, .int .i64 0, .int .i64 0])) m).toList) := by
  have hv : ∀ w, (zeroValue 59).run Tryd.prog w = .ok (.agg #[.int .i64 0, .int .i64 0, .slice none 0 0, .slice none 0 0, .int .i64 0, .int .i64 0]) w := fun w => by
    exact Tryd.zeroValue59 w
  have hl : (Builtin.zeroCells (Value.cells (.agg #[.int .i64 0, .int .i64 0, .slice none 0 0, .slice none 0 0, .int .i64 0, .int .i64 0])) m).toList.length = m * 6 := by
    rw [Array.length_toList, size_zeroCells]
    rfl
  refine ⟨hl, ?_⟩
  have hst := run_storeCells_cells (P := Tryd.prog) b o (Builtin.zeroCells (Value.cells (.agg #[.int .i64 0, .int .i64 0, .slice none 0 0, .slice none 0 0, .int .i64 0, .int .i64 0])) m).toList 0 w (fun j hj => (hc j (by rw [hl] at hj; exact hj)).1) (fun j hj => (hc j (by rw [hl] at hj; exact hj)).2) (by
    intro v hv'
    have := mem_zeroCells hv'
    simp [Value.cells] at this
    rcases this with h | h | h <;> subst h <;> rfl)
  simp only [Nat.add_zero] at hst
  obtain ⟨q, rfl⟩ : ∃ q, m = q + 1 := ⟨m - 1, by omega⟩
  simp [Builtin.clear_, run_underlying Tryd.underlying27, hv, hst]


set_option maxRecDepth 100000 in
set_option maxHeartbeats 4000000 in
theorem deleteJob_any (fn : Nat) (cps : Array Value) (p : JbV → Bool) (B : Nat) (a : Option Addr) (n cap : Nat) (xs : List JbV) (w : World) (h : w.ownsRow B 59 6 (.slice a n cap) n (flat JbV.cells xs)) (hF : AsksG fn cps JbV.val p (Value.slice a n cap).ownBlock w) :
    Calls Tryd.prog 76 #[.slice a n cap, .func (.func fn) #[] cps] w fun e w' => e = .returned (.slice a (keep p xs).length cap) ∧ w'.ownsRow B 59 6 (.slice a (keep p xs).length cap) (keep p xs).length (flat JbV.cells (keep p xs)) ∧ w.grownBy w' (Value.slice a n cap).ownBlock := by
  have hl := own_len jb_len (by decide) h
  obtain ⟨hrow, _⟩ := own_isRow jb_len h hl
  have hIx := fun w' h1 h2 => indexJob_any fn cps p a n cap xs w' h1 h2
  obtain ⟨i0, e0⟩ : ∃ R, R = idxI p xs := ⟨_, rfl⟩
  have hi0 := idxI_lt (p := p) (l := xs)
  rw [← e0] at hIx hi0
  by_cases hneg : i0 = -1
  · have hk := keep_all (p := p) (xs := xs) (by rw [← e0]; exact hneg)
    rw [hk, hl]
    subst hneg
    clear e0 hk
    have hA := hF.asks
    go_enter Tryd.func76, Tryd.ntmps76
    go_wp2_with (go_at_call 44; refine (hIx _ hrow hA).mono ?_; rintro e w1 ⟨rfl, hb1⟩)
    go_ret
    exact ⟨rfl, own_below h hb1, grown_below hb1 _⟩
  · obtain ⟨i1, rfl⟩ : ∃ i1 : Nat, i0 = (i1 : Int) := ⟨i0.toNat, by omega⟩
    obtain ⟨hi1, hk1⟩ := keep_idx (p := p) (xs := xs) e0.symm
    clear e0 hneg hi0
    rw [hl] at hi1
    obtain ⟨g, off, rfl, _, _⟩ := hrow.2.2.2.2 (by omega)
    have hoff : off = 0 := by
      rcases h.2 with ⟨hv, _⟩ | ⟨g', cap', cur, hv, _⟩
      · simp at hv
      · simp at hv; exact hv.1.2
    subst hoff
    have hcm : n ≤ cap ∧ cap ≤ maxLen := ⟨hrow.2.1, hrow.2.2.1⟩
    unfold maxLen at hcm
    have HK1 : Hid (keep p (xs.take (i1 + 1)) = xs.take i1) := hk1
    have HL : Hid (xs.length = n) := hl
    have hA := hF.asks
    obtain ⟨hEn, hFg⟩ := hF
    have HFG : Hid (∀ (x : JbV) (w' : World), w.grownBy w' (some g) → Calls Tryd.prog fn (#[JbV.val x] ++ cps) w' fun e w'' => e = .returned (.bool (p x)) ∧ Below w'.heap.size w' w'') := hFg
    unfold Enters at hEn
    clear hl hk1 hFg
    have hgl := h.lt g rfl
    obtain ⟨YS, eYS⟩ : ∃ YS, YS = keep p xs := ⟨_, rfl⟩
    have HYS : Hid (YS = keep p (xs.take n)) := by show _ = _; rw [eYS, List.take_of_length_le (by rw [HL.out]; exact Nat.le_refl _)]
    rw [← eYS]
    clear eYS
    have hm1 : ((i1 : Int) == -1) = false := by rw [beq_eq_false_iff_ne]; omega
    go_enter Tryd.func76, Tryd.ntmps76
    go_upto_region 5 with (go_at_call 44; refine (hIx _ hrow hA).mono ?_; rintro e w1 ⟨rfl, hb1⟩)
    have hg1 : w.grownBy w1 (some g) := grown_below hb1 _
    have own1 := own_below h hb1
    clear hA hIx hrow
    go_loopw [5, 6, 7] (fun s5 s6 _ wr => ∃ (i j : Nat) (L : List JbV), s5 = .int .i64 (i : Int) ∧ s6 = .int .i64 (j : Int) ∧ i < j ∧ j ≤ n ∧ wr.ownsRow B 59 6 (.slice (some ⟨g, 0, none⟩) n cap) n (flat JbV.cells L) ∧ Hid (L.take i = keep p (xs.take j)) ∧ Hid (L.drop j = xs.drop j) ∧ w.grownBy wr (some g)) (fun _ s6 _ _ => n - (intOf s6).toNat)
    case atStart => exact ⟨i1, i1 + 1, xs, rfl, by go_num, by omega, by omega, own1, HK1.out.symm, rfl, hg1⟩
    case round =>
      obtain ⟨i, j, L, rfl, rfl, hij, hjn, hown, hTk, hDr, hgr⟩ := hrel
      have hLl := own_len jb_len (by decide) hown
      have HLL : Hid (L.length = n) := hLl
      clear hLl
      by_cases hlt : j < n
      · have hlt' : (j : Int) < (n : Int) := by omega
        have HX : Hid (L.getD j default = xs.getD j default) := by
          show _ = _
          have h1 : j < L.length := by rw [HLL.out]; exact hlt
          have h2 : j < xs.length := by rw [HL.out]; exact hlt
          have h3 := hDr.out
          rw [drop_at h1, drop_at h2] at h3
          simp at h3
          simpa [List.getD] using h3.1
        have HD1 : Hid (L.drop (j + 1) = xs.drop (j + 1)) := by
          show _ = _
          have h3 := congrArg (List.drop 1) hDr.out
          simpa [List.drop_drop] using h3
        have HKA : Hid (keep p (xs.take (j + 1)) = L.take i ++ (if p (xs.getD j default) then [] else [xs.getD j default])) := by show _ = _; rw [hTk.out]; exact keep_at (by rw [HL.out]; exact hlt)
        obtain ⟨hrw, _⟩ := own_isRow jb_len hown HLL.out
        obtain ⟨b', off', e', zb, hc⟩ := hrw.2.2.2.2 (by omega)
        simp at e'
        obtain ⟨rfl, rfl⟩ := e'
        have hcells := hc j hlt
        rw [HX.out] at hcells
        have hcall := HFG.out (xs.getD j default)
        obtain ⟨x, ex⟩ : ∃ x, x = xs.getD j default := ⟨_, rfl⟩
        rw [← ex] at hcells HKA hcall
        clear ex hc hrw
        obtain ⟨q0, q1, ta, tl, tc, aa, al, ac, q4, q5, tasks, asked⟩ := x
        have a0 := hcells 0 (by decide)
        have a1 := hcells 1 (by decide)
        have a2 := hcells 2 (by decide)
        have a3 := hcells 3 (by decide)
        have a4 := hcells 4 (by decide)
        have a5 := hcells 5 (by decide)
        simp only [JbV.cells, List.getElem?_cons_zero, List.getElem?_cons_succ, Nat.add_zero, Nat.zero_add] at a0 a1 a2 a3 a4 a5
        clear hcells
        simp only [JbV.val] at hcall
        obtain ⟨P, eP⟩ : ∃ P, P = p ⟨q0, q1, ta, tl, tc, aa, al, ac, q4, q5, tasks, asked⟩ := ⟨_, rfl⟩
        rw [← eP] at HKA hcall
        clear eP
        obtain ⟨V0, hV0⟩ : ∃ V0 : World, V0 = wr.alloc (.cells #[.int .i64 q0, .int .i64 q1, .slice ta tl tc, .slice aa al ac, .int .i64 q4, .int .i64 q5] 59) := ⟨_, rfl⟩
        have bV0 : Below wr.heap.size wr V0 := by rw [hV0]; exact (Below.refl _ _).alloc (Nat.le_refl _) _
        have bx := boxn_new wr #[.int .i64 q0, .int .i64 q1, .slice ta tl tc, .slice aa al ac, .int .i64 q4, .int .i64 q5] 59 6 rfl
        rw [← hV0] at bx
        have hgV0 : w.grownBy V0 (some g) := grown_trans hgr (grown_below bV0 _)
        go_upto_region 8 with (fail)
        rw [← hV0]
        clear hV0 a0 a1 a2 a3 a4 a5
        have b0 := (bx.c 0 (by decide)).1
        have b1 := (bx.c 1 (by decide)).1
        have b2 := (bx.c 2 (by decide)).1
        have b3 := (bx.c 3 (by decide)).1
        have b4 := (bx.c 4 (by decide)).1
        have b5 := (bx.c 5 (by decide)).1
        simp only [List.getD_cons_zero, List.getD_cons_succ] at b0 b1 b2 b3 b4 b5
        have bxl := bx.lt
        have hgw : g < wr.heap.size := (hown.lt g rfl).2
        cases P with
        | true =>
          have HKB : Hid (L.take i = keep p (xs.take (j + 1))) := by show _ = _; rw [HKA.out]; simp
          go_wp2_with (go_at_fn fn; refine (hcall _ hgV0).mono ?_; rintro e V ⟨rfl, hbV⟩)
          go_roundw
          case rel => exact ⟨i, j + 1, L, rfl, by go_num, by omega, by omega, own_below (own_below hown bV0) hbV, HKB, HD1, grown_trans hgV0 (grown_below hbV _)⟩
          case measure => simp [intOf]; omega
        | false =>
          have HKB : Hid ((L.set i ⟨q0, q1, ta, tl, tc, aa, al, ac, q4, q5, tasks, asked⟩).take (i + 1) = keep p (xs.take (j + 1))) := by
            show _ = _
            have h1 : i < L.length := by rw [HLL.out]; omega
            rw [HKA.out, List.take_succ_eq_append_getElem (by simpa using h1), List.take_set_of_le (Nat.le_refl _)]
            simp
          have HDB : Hid ((L.set i ⟨q0, q1, ta, tl, tc, aa, al, ac, q4, q5, tasks, asked⟩).drop (j + 1) = xs.drop (j + 1)) := by
            show _ = _
            rw [List.drop_set_of_lt (by omega)]
            exact HD1.out
          go_upto_region 9 with (go_at_fn fn; refine (hcall _ hgV0).mono ?_; rintro e V ⟨rfl, hbV⟩)
          have ownV := own_below (own_below hown bV0) hbV
          have bxV := bx.below hbV bx.lt
          clear b0 b1 b2 b3 b4 b5 bxl
          have b0 := (bxV.c 0 (by decide)).1
          have b1 := (bxV.c 1 (by decide)).1
          have b2 := (bxV.c 2 (by decide)).1
          have b3 := (bxV.c 3 (by decide)).1
          have b4 := (bxV.c 4 (by decide)).1
          have b5 := (bxV.c 5 (by decide)).1
          simp only [List.getD_cons_zero, List.getD_cons_succ] at b0 b1 b2 b3 b4 b5
          have bxl := bxV.lt
          have hgV : w.grownBy V (some g) := grown_trans hgV0 (grown_below hbV _)
          have hin : (i : Int) < (n : Int) := by omega
          have hth : ∀ q, q < 6 → (V.cell? ⟨g, i * 6 + q, none⟩).isSome = true ∧ V.frozen? ⟨g, i * 6 + q, none⟩ = false := fun q hq => own_there ownV (by omega)
          obtain ⟨u0, e0⟩ := Option.isSome_iff_exists.1 (hth 0 (by decide)).1
          have z0 := (hth 0 (by decide)).2
          obtain ⟨u1, e1⟩ := Option.isSome_iff_exists.1 (hth 1 (by decide)).1
          have z1 := (hth 1 (by decide)).2
          obtain ⟨u2, e2⟩ := Option.isSome_iff_exists.1 (hth 2 (by decide)).1
          have z2 := (hth 2 (by decide)).2
          obtain ⟨u3, e3⟩ := Option.isSome_iff_exists.1 (hth 3 (by decide)).1
          have z3 := (hth 3 (by decide)).2
          obtain ⟨u4, e4⟩ := Option.isSome_iff_exists.1 (hth 4 (by decide)).1
          have z4 := (hth 4 (by decide)).2
          obtain ⟨u5, e5⟩ := Option.isSome_iff_exists.1 (hth 5 (by decide)).1
          have z5 := (hth 5 (by decide)).2
          simp only [Nat.add_zero] at e0 z0
          clear hth
          have own2 := own_setCells (JbV.cells ⟨q0, q1, ta, tl, tc, aa, al, ac, q4, q5, tasks, asked⟩) (i * 6) V _ ownV (by rw [jb_len]; omega)
          rw [flat_setL jb_len _ _ (by rw [HLL.out]; omega)] at own2
          have gr2 := grown_setCells g (JbV.cells ⟨q0, q1, ta, tl, tc, aa, al, ac, q4, q5, tasks, asked⟩) (i * 6) V
          obtain ⟨U, hU⟩ : ∃ U : World, U = ((((((V.setCell ⟨g, i * 6, none⟩ (.int .i64 q0)).setCell ⟨g, i * 6 + 1, none⟩ (.int .i64 q1)).setCell ⟨g, i * 6 + 2, none⟩ (.slice ta tl tc)).setCell ⟨g, i * 6 + 3, none⟩ (.slice aa al ac)).setCell ⟨g, i * 6 + 4, none⟩ (.int .i64 q4)).setCell ⟨g, i * 6 + 5, none⟩ (.int .i64 q5)) := ⟨_, rfl⟩
          have own3 : U.ownsRow B 59 6 (.slice (some ⟨g, 0, none⟩) n cap) n (flat JbV.cells (L.set i ⟨q0, q1, ta, tl, tc, aa, al, ac, q4, q5, tasks, asked⟩)) := by rw [hU]; exact own2
          have gr3 : w.grownBy U (some g) := by rw [hU]; exact grown_trans hgV gr2
          clear own2 gr2
          go_upto_region 10 with (fail)
          rw [← hU]
          clear hU
          go_wp2
          go_roundw
          case rel => exact ⟨i + 1, j + 1, L.set i ⟨q0, q1, ta, tl, tc, aa, al, ac, q4, q5, tasks, asked⟩, by go_num, by go_num, by omega, by omega, own3, HKB, HDB, gr3⟩
          case measure => simp [intOf]; omega
      · obtain rfl : n = j := by omega
        have HYL : Hid (YS.length = i ∧ YS = L.take i) := by
          have h1 : YS = L.take i := by rw [HYS.out, hTk.out]
          refine ⟨?_, h1⟩
          rw [h1, List.length_take, HLL.out]
          omega
        have hcq : ∀ q, q < (n - i) * 6 → (wr.cell? ⟨g, i * 6 + q, none⟩).isSome = true ∧ wr.frozen? ⟨g, i * 6 + q, none⟩ = false := fun q hq => own_there hown (by rw [Nat.sub_mul] at hq; omega)
        have hcl := fun ty c => (run_clear_job wr ty g (i * 6) (n - i) c (by omega) hcq).2
        have HVL : Hid ((Builtin.zeroCells (Value.cells (.agg #[.int .i64 0, .int .i64 0, .slice none 0 0, .slice none 0 0, .int .i64 0, .int .i64 0])) (n - i)).toList.length = (n - i) * 6) := (run_clear_job wr 0 g (i * 6) (n - i) 0 (by omega) hcq).1
        obtain ⟨vs, evs⟩ : ∃ vs, vs = (Builtin.zeroCells (Value.cells (.agg #[.int .i64 0, .int .i64 0, .slice none 0 0, .slice none 0 0, .int .i64 0, .int .i64 0])) (n - i)).toList := ⟨_, rfl⟩
        rw [← evs] at HVL
        simp only [← evs] at hcl
        clear evs hcq
        have hic : i ≤ cap := by omega
        have hin : i ≤ n := by omega
        have hne : ¬ cap = i := by omega
        have hin' : (i : Int) ≤ (n : Int) := by omega
        have hnc : n ≤ cap := by omega
        have HFIN : Hid ((wr.setCells g (i * 6) vs).ownsRow B 59 6 (.slice (some ⟨g, 0, none⟩) i cap) i (flat JbV.cells (L.take i)) ∧ w.grownBy (wr.setCells g (i * 6) vs) (some g)) := by
          have hX : (flat JbV.cells L).length = n * 6 := by rw [flat_len jb_len, HLL.out]
          have hfit : i * 6 + vs.length ≤ n * 6 := by rw [HVL.out, ← Nat.add_mul]; exact Nat.mul_le_mul_right _ (by omega)
          have o1 := own_prefix (own_setCells vs (i * 6) wr _ hown hfit) (k := i) (by omega) (by omega)
          rw [setL_pre _ _ _ (by rw [hX]; exact hfit), flat_take jb_len] at o1
          exact ⟨o1, grown_trans hgr (grown_setCells g vs (i * 6) wr)⟩
        go_wp2
        go_ret
        obtain ⟨y1, y2⟩ := HYL.out
        rw [y1, y2]
        exact ⟨rfl, HFIN.out.1, HFIN.out.2⟩

end Go.Proofs.YtdjnaahkcnklhabDoor.Co
/- What becomes of the clerk when a cell of a job, a job's list, or a cell of the box is told, or a job is dropped. -/
namespace Go.Proofs.YtdjnaahkcnklhabDoor.Co
open Go.ChangeShapes Go.WideShapes Go.ChangeAt Go.RowKit
open Go.Proofs.YtdjnaahkcnklhabDoor.St (BoxN boxn_new own_below grown_setCell IsRow Elem flat flat_append own_isRow idxI idxI_lt own_setk)
set_option linter.unusedVariables false

theorem flat_cons {α : Type} (cells : α → List Value) (a : α) (l : List α) : flat cells (a :: l) = cells a ++ flat cells l := by simp [flat]
theorem flat_set6 : ∀ (js : List JbV) (i : Nat) (j' : JbV) (c : Nat) (u : Value), i < js.length → c < 6 → j'.cells = (js.getD i default).cells.set c u → flat JbV.cells (js.set i j') = (flat JbV.cells js).set (i * 6 + c) u
  | [], i, _, _, _, hi, _, _ => by simp at hi
  | a :: l, 0, j', c, u, _, hc, hj => by
    simp at hj
    rw [List.set_cons_zero, flat_cons, flat_cons, hj, Nat.zero_mul, Nat.zero_add, List.set_append_left _ _ (by rw [jb_len]; exact hc)]
  | a :: l, i + 1, j', c, u, hi, hc, hj => by
    simp at hi hj
    rw [List.set_cons_succ, flat_cons, flat_cons, flat_set6 l i j' c u hi hc (by simpa using hj), List.set_append_right _ _ (by rw [jb_len]; omega), jb_len]
    congr 2
    omega
/-- The same lists at the same places. -/
def sameL (j k : JbV) : Prop := j.ta = k.ta ∧ j.tl = k.tl ∧ j.tc = k.tc ∧ j.aa = k.aa ∧ j.al = k.al ∧ j.ac = k.ac ∧ j.tasks = k.tasks ∧ j.asked = k.asked
theorem getD_of {α : Type} [Inhabited α] {l : List α} {i : Nat} {x : α} (e : l[i]? = some x) : l.getD i default = x := by simp [List.getD, e]
theorem JobsIn.same {js : List JbV} {ix : List (Nat × Nat)} {more : List Rw} (h : JobsIn js ix more) {i : Nat} {j' : JbV} (hi : i < js.length) (hs : sameL j' (js.getD i default)) : JobsIn (js.set i j') ix more := by
  obtain ⟨h1, h2, h3, h4⟩ := h
  refine ⟨by simpa using h1, fun k j x ej ex => ?_, h3, h4⟩
  have eo : js[i]? = some (js.getD i default) := by simp [List.getD, hi]
  rcases set_get eo ej with ⟨rfl, rfl⟩ | ⟨_, ej⟩
  · have := h2 k _ x eo ex
    obtain ⟨e1, e2, e3, e4, e5, e6, e7, e8⟩ := hs
    rw [e1, e2, e3, e4, e5, e6, e7, e8]
    exact this
  · exact h2 k j x ej ex
/-- A plain cell of a job is told. -/
theorem Clerk.jcell {w X : World} {B q : Nat} {v : CkV} {ix : List (Nat × Nat)} {more : List Rw} (h : Clerk w X B q v ix more) {i g : Nat} (hi : i < v.jl) (eg : v.ja = some ⟨g, 0, none⟩) (c : Nat) (hc : c < 6) (u : Value) (j' : JbV) (hj : j'.cells = (v.js.getD i default).cells.set c u) (hs : sameL j' (v.js.getD i default)) :
    Clerk w (X.setCell ⟨g, i * 6 + c, none⟩ u) B q { v with js := v.js.set i j' } ix more := by
  have hl := h.lens.1
  have hi' : i < v.js.length := by omega
  have e0 : (v.rows ++ more)[0]? = some ⟨59, 6, .slice (some ⟨g, 0, none⟩) v.jl v.jc, v.jl, flat JbV.cells v.js⟩ := by rw [← eg]; rfl
  have h1 := h.held.cell e0 (j := i * 6 + c) (by omega) u
  rw [← flat_set6 v.js i j' c u hi' hc hj] at h1
  refine ⟨?_, h.jobs.same hi' hs, by simpa using hl, h.lens.2.1, h.lens.2.2.1, h.lens.2.2.2⟩
  have er : ({ v with js := v.js.set i j' } : CkV).rows ++ more = (v.rows ++ more).set 0 ⟨59, 6, .slice (some ⟨g, 0, none⟩) v.jl v.jc, v.jl, flat JbV.cells (v.js.set i j')⟩ := by rw [← eg]; rfl
  rw [er]
  exact h1
/-- A cell of the box that leads to no list. -/
theorem Clerk.next {w X : World} {B q : Nat} {v : CkV} {ix : List (Nat × Nat)} {more : List Rw} (h : Clerk w X B q v ix more) (n : Int) : Clerk w (X.setCell ⟨q, 5, none⟩ (.int .i64 n)) B q { v with next := n } ix more := ⟨h.held.tell 5 (by decide) _, h.jobs, h.lens⟩
theorem Clerk.sure {w X : World} {B q : Nat} {v : CkV} {ix : List (Nat × Nat)} {more : List Rw} (h : Clerk w X B q v ix more) (n : Int) : Clerk w (X.setCell ⟨q, 10, none⟩ (.int .i64 n)) B q { v with sure := n } ix more := ⟨h.held.tell 10 (by decide) _, h.jobs, h.lens⟩
theorem Clerk.com {w X : World} {B q : Nat} {v : CkV} {ix : List (Nat × Nat)} {more : List Rw} (h : Clerk w X B q v ix more) (n : Int) : Clerk w (X.setCell ⟨q, 11, none⟩ (.int .i64 n)) B q { v with com := n } ix more := ⟨h.held.tell 11 (by decide) _, h.jobs, h.lens⟩
/-- The places of a job's rows. -/
theorem JobsIn.at {js : List JbV} {ix : List (Nat × Nat)} {more : List Rw} (h : JobsIn js ix more) {i : Nat} (hi : i < js.length) : ∃ x, ix[i]? = some x ∧ more[x.1]? = some ⟨87, 8, .slice (js.getD i default).ta (js.getD i default).tl (js.getD i default).tc, (js.getD i default).tl, flat TkV.cells (js.getD i default).tasks⟩ ∧ more[x.2]? = some ⟨3, 1, .slice (js.getD i default).aa (js.getD i default).al (js.getD i default).ac, (js.getD i default).al, flat inCell (js.getD i default).asked⟩ := by
  have hx : i < ix.length := by rw [h.1]; exact hi
  have e1 : js[i]? = some (js.getD i default) := by simp [List.getD, hi]
  have e2 : ix[i]? = some ix[i] := List.getElem?_eq_getElem hx
  exact ⟨ix[i], e2, h.2.1 i _ _ e1 e2⟩
theorem more_get {v : CkV} {more : List Rw} {k : Nat} {r : Rw} (e : more[k]? = some r) : (v.rows ++ more)[4 + k]? = some r := by
  rw [List.getElem?_append_right (by simp [CkV.rows])]
  simpa [CkV.rows] using e
/-- The tasks of a job, as rows of the call's own. -/
theorem Clerk.tasksAt {w X : World} {B q : Nat} {v : CkV} {ix : List (Nat × Nat)} {more : List Rw} (h : Clerk w X B q v ix more) {i : Nat} (hi : i < v.jl) : X.ownsRow B 87 8 (.slice (v.js.getD i default).ta (v.js.getD i default).tl (v.js.getD i default).tc) (v.js.getD i default).tl (flat TkV.cells (v.js.getD i default).tasks) ∧ X.ownsRow B 3 1 (.slice (v.js.getD i default).aa (v.js.getD i default).al (v.js.getD i default).ac) (v.js.getD i default).al (flat inCell (v.js.getD i default).asked) := by
  obtain ⟨x, _, e1, e2⟩ := h.jobs.at (i := i) (by have := h.lens.1; omega)
  exact ⟨h.held.own.own _ _ (more_get e1), h.held.own.own _ _ (more_get e2)⟩
theorem own_count {α : Type} {k : Nat} {cells : α → List Value} (hk : ∀ x, (cells x).length = k) (h0 : 0 < k) {w : World} {B : Nat} {te : TypeId} {v : Value} {n : Nat} {xs : List α} (h : w.ownsRow B te k v n (flat cells xs)) : xs.length = n := St.own_len hk h0 h
theorem Clerk.fit {w X : World} {B q : Nat} {v : CkV} {ix : List (Nat × Nat)} {more : List Rw} (h : Clerk w X B q v ix more) {i : Nat} (hi : i < v.jl) : (v.js.getD i default).tasks.length = (v.js.getD i default).tl ∧ (v.js.getD i default).asked.length = (v.js.getD i default).al :=
  ⟨own_count tk_len (by decide) (h.tasksAt hi).1, own_count in_len (by decide) (h.tasksAt hi).2⟩
theorem Clerk.isTasks {w X : World} {B q : Nat} {v : CkV} {ix : List (Nat × Nat)} {more : List Rw} (h : Clerk w X B q v ix more) {i : Nat} (hi : i < v.jl) : IsTasks X (v.js.getD i default).ta (v.js.getD i default).tl (v.js.getD i default).tc (v.js.getD i default).tasks := (own_isRow tk_len (h.tasksAt hi).1 (h.fit hi).1).1
theorem Clerk.isSites {w X : World} {B q : Nat} {v : CkV} {ix : List (Nat × Nat)} {more : List Rw} (h : Clerk w X B q v ix more) {i : Nat} (hi : i < v.jl) : IsSites X (v.js.getD i default).aa (v.js.getD i default).al (v.js.getD i default).ac (v.js.getD i default).asked := (own_isRow in_len (h.tasksAt hi).2 (h.fit hi).2).1

/-! ### Jobs that are left -/
theorem JobsIn.pairs {js : List JbV} {ix : List (Nat × Nat)} {more : List Rw} (h : JobsIn js ix more) :
    (∀ z ∈ js.zip ix, more[z.2.1]? = some ⟨87, 8, .slice z.1.ta z.1.tl z.1.tc, z.1.tl, flat TkV.cells z.1.tasks⟩ ∧ more[z.2.2]? = some ⟨3, 1, .slice z.1.aa z.1.al z.1.ac, z.1.al, flat inCell z.1.asked⟩ ∧ z.2.1 ≠ z.2.2) ∧ (js.zip ix).Pairwise (fun x y => x.2.1 ≠ y.2.1 ∧ x.2.1 ≠ y.2.2 ∧ x.2.2 ≠ y.2.1 ∧ x.2.2 ≠ y.2.2) := by
  obtain ⟨h1, h2, h3, h4⟩ := h
  have get : ∀ (i : Nat) (hi : i < (js.zip ix).length), js[i]? = some (js.zip ix)[i].1 ∧ ix[i]? = some (js.zip ix)[i].2 := by
    intro i hi
    have hl : i < js.length ∧ i < ix.length := by simp at hi; omega
    simp [hl.1, hl.2]
  refine ⟨fun z hz => ?_, ?_⟩
  · obtain ⟨i, hi, rfl⟩ := List.getElem_of_mem hz
    obtain ⟨e1, e2⟩ := get i hi
    have := h2 i _ _ e1 e2
    exact ⟨this.1, this.2, h4 i _ e2⟩
  · rw [List.pairwise_iff_getElem]
    intro i j hi hj hij
    exact h3 i j _ _ (get i hi).2 (get j hj).2 (by omega)
theorem JobsIn.ofPairs {zs : List (JbV × (Nat × Nat))} {more : List Rw} (h1 : ∀ z ∈ zs, more[z.2.1]? = some ⟨87, 8, .slice z.1.ta z.1.tl z.1.tc, z.1.tl, flat TkV.cells z.1.tasks⟩ ∧ more[z.2.2]? = some ⟨3, 1, .slice z.1.aa z.1.al z.1.ac, z.1.al, flat inCell z.1.asked⟩ ∧ z.2.1 ≠ z.2.2) (h2 : zs.Pairwise (fun x y => x.2.1 ≠ y.2.1 ∧ x.2.1 ≠ y.2.2 ∧ x.2.2 ≠ y.2.1 ∧ x.2.2 ≠ y.2.2)) : JobsIn (zs.map (·.1)) (zs.map (·.2)) more := by
  have get : ∀ (i : Nat) (j : JbV) (x : Nat × Nat), (zs.map (·.1))[i]? = some j → (zs.map (·.2))[i]? = some x → zs[i]? = some (j, x) := by
    intro i j x e1 e2
    rw [List.getElem?_map] at e1 e2
    cases hz : zs[i]? with
    | none => rw [hz] at e1; simp at e1
    | some z => rw [hz] at e1 e2; simp at e1 e2; rw [← e1, ← e2]
  have get2 : ∀ (i : Nat) (x : Nat × Nat), (zs.map (·.2))[i]? = some x → ∃ (hi : i < zs.length), zs[i].2 = x := by
    intro i x e
    rw [List.getElem?_map] at e
    cases hz : zs[i]? with
    | none => rw [hz] at e; simp at e
    | some z =>
      obtain ⟨hi, e2⟩ := List.getElem?_eq_some_iff.1 hz
      rw [hz] at e
      simp at e
      exact ⟨hi, by rw [e2]; exact e⟩
  refine ⟨by simp, fun i j x e1 e2 => ?_, fun i k x y ex ey hik => ?_, fun i x ex => ?_⟩
  · have := h1 (j, x) (List.mem_of_getElem? (get i j x e1 e2))
    exact ⟨this.1, this.2.1⟩
  · obtain ⟨hi, rfl⟩ := get2 i x ex
    obtain ⟨hk, rfl⟩ := get2 k y ey
    rw [List.pairwise_iff_getElem] at h2
    rcases Nat.lt_or_gt_of_ne hik with hlt | hlt
    · exact h2 i k hi hk hlt
    · obtain ⟨a, b, c, d⟩ := h2 k i hk hi hlt
      exact ⟨a.symm, c.symm, b.symm, d.symm⟩
  · obtain ⟨hi, rfl⟩ := get2 i x ex
    exact (h1 _ (List.getElem_mem hi)).2.2
theorem zip_fst : ∀ (js : List JbV) (ix : List (Nat × Nat)), ix.length = js.length → (js.zip ix).map (·.1) = js
  | [], _, _ => by simp
  | a :: l, [], h => by simp at h
  | a :: l, b :: m, h => by simp at h; simp [zip_fst l m h]
theorem JobsIn.keep {js : List JbV} {ix : List (Nat × Nat)} {more : List Rw} (h : JobsIn js ix more) (p : JbV → Bool) : ∃ ix', JobsIn (Co.keep p js) ix' more := by
  obtain ⟨h1, h2⟩ := h.pairs
  refine ⟨((js.zip ix).filter (fun z => !(p z.1))).map (·.2), ?_⟩
  have := JobsIn.ofPairs (zs := (js.zip ix).filter (fun z => !(p z.1))) (more := more) (fun z hz => h1 z (List.mem_filter.1 hz).1) (h2.filter _)
  have e : ((js.zip ix).filter (fun z => !(p z.1))).map (·.1) = Co.keep p js := by
    unfold Co.keep
    conv => rhs; rw [← zip_fst js ix h.1]
    rw [List.filter_map]
    rfl
  rw [← e]
  exact this
end Go.Proofs.YtdjnaahkcnklhabDoor.Co
