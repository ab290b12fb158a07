/- Texts of this claim, one behind the other. -/
import Derived.Test.YtmkobbgedhlcfaaM7PartAsks
import Derived.Laws.IdiomCopy
import Derived.Lib.SliceRun
import Derived.Test.YtmkobbgedhlcfaaM9PartAsks
import Derived.Test.YtmkobbgedhlcfaaM8PartAsks
import Derived.Test.YtmkobbgedhlcfaaM12PartAsks
import Derived.Deep.RegionHeld3
import Derived.Test.YtmkobbgedhlcfaaM5PartAsks
import Derived.Test.YtmkobbgedhlcfaaM15PartAsks
import Derived.Deep.Cut
/- The contracts of slices.DeleteFunc at locks and doubts: of a row of the caller's own, what is meant taken out, in its place. -/
namespace Go.Proofs.Ytmkobbgedhlcfaa.St
open Go.ChangeShapes Go.WideShapes Go.ChangeAt Go.RowKit
set_option linter.unusedVariables false

/-- A function value that answers a question about an element, whatever became of that one block. -/
def AsksG {α : Type} (fn : Nat) (cps : Array Value) (val : α → Value) (p : α → Bool) (row : Option Nat) (w : World) : Prop :=
  Enters Try.prog fn ∧ ∀ (x : α) (w' : World), w.grownBy w' row → Calls Try.prog fn (#[val x] ++ cps) w' fun e w'' => e = .returned (.bool (p x)) ∧ Below w'.heap.size w' w''
theorem AsksG.asks {α : Type} {fn : Nat} {cps : Array Value} {val : α → Value} {p : α → Bool} {row : Option Nat} {w : World} (h : AsksG fn cps val p row w) : Asks fn cps val p w :=
  ⟨h.1, fun x u hu => h.2 x u (grown_below hu row)⟩
theorem mem_zeroCells {z : Array Value} {n : Nat} {v : Value} (h : v ∈ (Builtin.zeroCells z n).toList) : v ∈ z.toList := by
  simp only [Builtin.zeroCells, Array.toList_map, List.mem_map, Array.toList_range, List.mem_range] at h
  obtain ⟨i, hi, rfl⟩ := h
  have hz : 0 < z.size := by
    rcases Nat.eq_zero_or_pos z.size with e | e
    · rw [e] at hi; simp at hi
    · exact e
  have hm : i % z.size < z.size := Nat.mod_lt _ hz
  rw [getElem!_pos z _ hm]
  simp
theorem setL_pre (xs vs : List Value) (o : Nat) (h : o + vs.length ≤ xs.length) : (setL xs o vs).take o = xs.take o := by
  rw [setL_eq _ _ _ h, List.append_assoc, List.take_append_of_le_length (by rw [List.length_take]; omega), List.take_take, Nat.min_self]
def keep {α : Type} (p : α → Bool) (xs : List α) : List α := xs.filter (fun x => !(p x))
theorem keep_all {α : Type} [Inhabited α] {p : α → Bool} {xs : List α} (h : idxI p xs = -1) : keep p xs = xs := by
  unfold keep
  rw [List.filter_eq_self]
  intro x hx
  have : xs.any p = false := by rw [← idxI_any, h]; rfl
  have := List.any_eq_false.1 this x hx
  simpa using this
theorem keep_at {α : Type} [Inhabited α] {p : α → Bool} {xs : List α} {j : Nat} (hj : j < xs.length) : keep p (xs.take (j + 1)) = keep p (xs.take j) ++ (if p (xs.getD j default) then [] else [xs.getD j default]) := by
  unfold keep
  rw [take_at hj, List.filter_append]
  congr 1
  generalize xs.getD j default = x
  cases h : p x <;> simp [h]
theorem keep_idx {α : Type} [Inhabited α] {p : α → Bool} {xs : List α} {i : Nat} (h : idxI p xs = (i : Int)) : i < xs.length ∧ keep p (xs.take (i + 1)) = xs.take i := by
  unfold idxI at h
  cases e : xs.findIdx? p with
  | none => rw [e] at h; simp at h
  | some k =>
    rw [e] at h
    simp at h
    obtain rfl : k = i := by omega
    rw [List.findIdx?_eq_some_iff_getElem] at e
    obtain ⟨hk, hp, hn⟩ := e
    refine ⟨hk, ?_⟩
    rw [keep_at hk]
    have : p (xs.getD k default) = true := by simpa [List.getD, hk] using hp
    rw [this]
    simp only [↓reduceIte, List.append_nil]
    unfold keep
    rw [List.filter_eq_self]
    intro x hx
    obtain ⟨q, hq, rfl⟩ := List.getElem_of_mem hx
    simp only [List.length_take] at hq
    have := hn q (by omega)
    simpa using this

theorem run_clear_lock (w : World) (ty : TypeId) (b o m c : Nat) (h0 : 0 < m) (hc : ∀ j, j < m * 6 → (w.cell? ⟨b, o + j, none⟩).isSome = true ∧ w.frozen? ⟨b, o + j, none⟩ = false) :
    (Builtin.zeroCells (Value.cells (.agg #[.int .i64 0, .int .i64 0, .int .i64 0, .bool false, .int .i64 0, .int .i64 0])) m).toList.length = m * 6 ∧ (Builtin.clear_ #[27] ty #[.slice (some ⟨b, o, none⟩) m c]).run Try.prog w = .ok (.tuple #[]) (w.setCells b o (Builtin.zeroCells (Value.cells (.agg #[.int .i64 0, .int .i64 0, .int .i64 0, .bool false, .int .i64 0, .int .i64 0])) m).toList) := by
  have hv : ∀ w, (zeroValue 85).run Try.prog w = .ok (.agg #[.int .i64 0, .int .i64 0, .int .i64 0, .bool false, .int .i64 0, .int .i64 0]) w := fun w => by
    exact Try.zeroValue85 w
  have hl : (Builtin.zeroCells (Value.cells (.agg #[.int .i64 0, .int .i64 0, .int .i64 0, .bool false, .int .i64 0, .int .i64 0])) m).toList.length = m * 6 := by
    rw [Array.length_toList, size_zeroCells]
    rfl
  refine ⟨hl, ?_⟩
  have hst := run_storeCells_cells (P := Try.prog) b o (Builtin.zeroCells (Value.cells (.agg #[.int .i64 0, .int .i64 0, .int .i64 0, .bool false, .int .i64 0, .int .i64 0])) m).toList 0 w (fun j hj => (hc j (by rw [hl] at hj; exact hj)).1) (fun j hj => (hc j (by rw [hl] at hj; exact hj)).2) (by
    intro v hv'
    have := mem_zeroCells hv'
    simp [Value.cells] at this
    rcases this with h | h | h <;> subst h <;> rfl)
  simp only [Nat.add_zero] at hst
  obtain ⟨q, rfl⟩ : ∃ q, m = q + 1 := ⟨m - 1, by omega⟩
  simp [Builtin.clear_, run_underlying Try.underlying27, hv, hst]


set_option maxRecDepth 100000 in
set_option maxHeartbeats 4000000 in
theorem deleteLock_any (fn : Nat) (cps : Array Value) (p : LkV → Bool) (B : Nat) (a : Option Addr) (n cap : Nat) (xs : List LkV) (w : World) (h : w.ownsRow B 85 6 (.slice a n cap) n (flat LkV.cells xs)) (hF : AsksG fn cps LkV.val p (Value.slice a n cap).ownBlock w) :
    Calls Try.prog 49 #[.slice a n cap, .func (.func fn) #[] cps] w fun e w' => e = .returned (.slice a (keep p xs).length cap) ∧ w'.ownsRow B 85 6 (.slice a (keep p xs).length cap) (keep p xs).length (flat LkV.cells (keep p xs)) ∧ w.grownBy w' (Value.slice a n cap).ownBlock := by
  have hl := own_len lk_len (by decide) h
  obtain ⟨hrow, _⟩ := own_isRow lk_len h hl
  have hIx := fun w' h1 h2 => indexLock_any fn cps p a n cap xs w' h1 h2
  obtain ⟨i0, e0⟩ : ∃ R, R = idxI p xs := ⟨_, rfl⟩
  have hi0 := idxI_lt (p := p) (l := xs)
  rw [← e0] at hIx hi0
  by_cases hneg : i0 = -1
  · have hk := keep_all (p := p) (xs := xs) (by rw [← e0]; exact hneg)
    rw [hk, hl]
    subst hneg
    clear e0 hk
    have hA := hF.asks
    go_enter Try.func49, Try.ntmps49
    go_wp2_with (go_at_call 59; refine (hIx _ hrow hA).mono ?_; rintro e w1 ⟨rfl, hb1⟩)
    go_ret
    exact ⟨rfl, own_below h hb1, grown_below hb1 _⟩
  · obtain ⟨i1, rfl⟩ : ∃ i1 : Nat, i0 = (i1 : Int) := ⟨i0.toNat, by omega⟩
    obtain ⟨hi1, hk1⟩ := keep_idx (p := p) (xs := xs) e0.symm
    clear e0 hneg hi0
    rw [hl] at hi1
    obtain ⟨g, off, rfl, _, _⟩ := hrow.2.2.2.2 (by omega)
    have hoff : off = 0 := by
      rcases h.2 with ⟨hv, _⟩ | ⟨g', cap', cur, hv, _⟩
      · simp at hv
      · simp at hv; exact hv.1.2
    subst hoff
    have hcm : n ≤ cap ∧ cap ≤ maxLen := ⟨hrow.2.1, hrow.2.2.1⟩
    unfold maxLen at hcm
    have HK1 : Hid (keep p (xs.take (i1 + 1)) = xs.take i1) := hk1
    have HL : Hid (xs.length = n) := hl
    have hA := hF.asks
    obtain ⟨hEn, hFg⟩ := hF
    have HFG : Hid (∀ (x : LkV) (w' : World), w.grownBy w' (some g) → Calls Try.prog fn (#[LkV.val x] ++ cps) w' fun e w'' => e = .returned (.bool (p x)) ∧ Below w'.heap.size w' w'') := hFg
    unfold Enters at hEn
    clear hl hk1 hFg
    have hgl := h.lt g rfl
    obtain ⟨YS, eYS⟩ : ∃ YS, YS = keep p xs := ⟨_, rfl⟩
    have HYS : Hid (YS = keep p (xs.take n)) := by show _ = _; rw [eYS, List.take_of_length_le (by rw [HL.out]; exact Nat.le_refl _)]
    rw [← eYS]
    clear eYS
    have hm1 : ((i1 : Int) == -1) = false := by rw [beq_eq_false_iff_ne]; omega
    go_enter Try.func49, Try.ntmps49
    go_upto_region 5 with (go_at_call 59; refine (hIx _ hrow hA).mono ?_; rintro e w1 ⟨rfl, hb1⟩)
    have hg1 : w.grownBy w1 (some g) := grown_below hb1 _
    have own1 := own_below h hb1
    clear hA hIx hrow
    go_loopw [5, 6, 7] (fun s5 s6 _ wr => ∃ (i j : Nat) (L : List LkV), s5 = .int .i64 (i : Int) ∧ s6 = .int .i64 (j : Int) ∧ i < j ∧ j ≤ n ∧ wr.ownsRow B 85 6 (.slice (some ⟨g, 0, none⟩) n cap) n (flat LkV.cells L) ∧ Hid (L.take i = keep p (xs.take j)) ∧ Hid (L.drop j = xs.drop j) ∧ w.grownBy wr (some g)) (fun _ s6 _ _ => n - (intOf s6).toNat)
    case atStart => exact ⟨i1, i1 + 1, xs, rfl, by go_num, by omega, by omega, own1, HK1.out.symm, rfl, hg1⟩
    case round =>
      obtain ⟨i, j, L, rfl, rfl, hij, hjn, hown, hTk, hDr, hgr⟩ := hrel
      have hLl := own_len lk_len (by decide) hown
      have HLL : Hid (L.length = n) := hLl
      clear hLl
      by_cases hlt : j < n
      · have hlt' : (j : Int) < (n : Int) := by omega
        have HX : Hid (L.getD j default = xs.getD j default) := by
          show _ = _
          have h1 : j < L.length := by rw [HLL.out]; exact hlt
          have h2 : j < xs.length := by rw [HL.out]; exact hlt
          have h3 := hDr.out
          rw [drop_at h1, drop_at h2] at h3
          simp at h3
          simpa [List.getD] using h3.1
        have HD1 : Hid (L.drop (j + 1) = xs.drop (j + 1)) := by
          show _ = _
          have h3 := congrArg (List.drop 1) hDr.out
          simpa [List.drop_drop] using h3
        have HKA : Hid (keep p (xs.take (j + 1)) = L.take i ++ (if p (xs.getD j default) then [] else [xs.getD j default])) := by show _ = _; rw [hTk.out]; exact keep_at (by rw [HL.out]; exact hlt)
        obtain ⟨hrw, _⟩ := own_isRow lk_len hown HLL.out
        obtain ⟨b', off', e', zb, hc⟩ := hrw.2.2.2.2 (by omega)
        simp at e'
        obtain ⟨rfl, rfl⟩ := e'
        have hcells := hc j hlt
        rw [HX.out] at hcells
        have hcall := HFG.out (xs.getD j default)
        obtain ⟨x, ex⟩ : ∃ x, x = xs.getD j default := ⟨_, rfl⟩
        rw [← ex] at hcells HKA hcall
        clear ex hc hrw
        obtain ⟨⟨q0, q1⟩, q2, q3, q4, q5⟩ := x
        have a0 := hcells 0 (by decide)
        have a1 := hcells 1 (by decide)
        have a2 := hcells 2 (by decide)
        have a3 := hcells 3 (by decide)
        have a4 := hcells 4 (by decide)
        have a5 := hcells 5 (by decide)
        simp only [LkV.cells, List.getElem?_cons_zero, List.getElem?_cons_succ, Nat.add_zero, Nat.zero_add] at a0 a1 a2 a3 a4 a5
        clear hcells
        simp only [LkV.val] at hcall
        obtain ⟨P, eP⟩ : ∃ P, P = p ⟨(q0, q1), q2, q3, q4, q5⟩ := ⟨_, rfl⟩
        rw [← eP] at HKA hcall
        clear eP
        obtain ⟨V0, hV0⟩ : ∃ V0 : World, V0 = wr.alloc (.cells #[.int .i64 q0, .int .i64 q1, .int .i64 q2, .bool q3, .int .i64 q4, .int .i64 q5] 85) := ⟨_, rfl⟩
        have bV0 : Below wr.heap.size wr V0 := by rw [hV0]; exact (Below.refl _ _).alloc (Nat.le_refl _) _
        have bx := boxn_new wr #[.int .i64 q0, .int .i64 q1, .int .i64 q2, .bool q3, .int .i64 q4, .int .i64 q5] 85 6 rfl
        rw [← hV0] at bx
        have hgV0 : w.grownBy V0 (some g) := grown_trans hgr (grown_below bV0 _)
        go_upto_region 8 with (fail)
        rw [← hV0]
        clear hV0 a0 a1 a2 a3 a4 a5
        have b0 := (bx.c 0 (by decide)).1
        have b1 := (bx.c 1 (by decide)).1
        have b2 := (bx.c 2 (by decide)).1
        have b3 := (bx.c 3 (by decide)).1
        have b4 := (bx.c 4 (by decide)).1
        have b5 := (bx.c 5 (by decide)).1
        simp only [List.getD_cons_zero, List.getD_cons_succ] at b0 b1 b2 b3 b4 b5
        have bxl := bx.lt
        have hgw : g < wr.heap.size := (hown.lt g rfl).2
        cases P with
        | true =>
          have HKB : Hid (L.take i = keep p (xs.take (j + 1))) := by show _ = _; rw [HKA.out]; simp
          go_wp2_with (go_at_fn fn; refine (hcall _ hgV0).mono ?_; rintro e V ⟨rfl, hbV⟩)
          go_roundw
          case rel => exact ⟨i, j + 1, L, rfl, by go_num, by omega, by omega, own_below (own_below hown bV0) hbV, HKB, HD1, grown_trans hgV0 (grown_below hbV _)⟩
          case measure => simp [intOf]; omega
        | false =>
          have HKB : Hid ((L.set i ⟨(q0, q1), q2, q3, q4, q5⟩).take (i + 1) = keep p (xs.take (j + 1))) := by
            show _ = _
            have h1 : i < L.length := by rw [HLL.out]; omega
            rw [HKA.out, List.take_succ_eq_append_getElem (by simpa using h1), List.take_set_of_le (Nat.le_refl _)]
            simp
          have HDB : Hid ((L.set i ⟨(q0, q1), q2, q3, q4, q5⟩).drop (j + 1) = xs.drop (j + 1)) := by
            show _ = _
            rw [List.drop_set_of_lt (by omega)]
            exact HD1.out
          go_upto_region 9 with (go_at_fn fn; refine (hcall _ hgV0).mono ?_; rintro e V ⟨rfl, hbV⟩)
          have ownV := own_below (own_below hown bV0) hbV
          have bxV := bx.below hbV bx.lt
          clear b0 b1 b2 b3 b4 b5 bxl
          have b0 := (bxV.c 0 (by decide)).1
          have b1 := (bxV.c 1 (by decide)).1
          have b2 := (bxV.c 2 (by decide)).1
          have b3 := (bxV.c 3 (by decide)).1
          have b4 := (bxV.c 4 (by decide)).1
          have b5 := (bxV.c 5 (by decide)).1
          simp only [List.getD_cons_zero, List.getD_cons_succ] at b0 b1 b2 b3 b4 b5
          have bxl := bxV.lt
          have hgV : w.grownBy V (some g) := grown_trans hgV0 (grown_below hbV _)
          have hin : (i : Int) < (n : Int) := by omega
          have hth : ∀ q, q < 6 → (V.cell? ⟨g, i * 6 + q, none⟩).isSome = true ∧ V.frozen? ⟨g, i * 6 + q, none⟩ = false := fun q hq => own_there ownV (by omega)
          obtain ⟨u0, e0⟩ := Option.isSome_iff_exists.1 (hth 0 (by decide)).1
          have z0 := (hth 0 (by decide)).2
          obtain ⟨u1, e1⟩ := Option.isSome_iff_exists.1 (hth 1 (by decide)).1
          have z1 := (hth 1 (by decide)).2
          obtain ⟨u2, e2⟩ := Option.isSome_iff_exists.1 (hth 2 (by decide)).1
          have z2 := (hth 2 (by decide)).2
          obtain ⟨u3, e3⟩ := Option.isSome_iff_exists.1 (hth 3 (by decide)).1
          have z3 := (hth 3 (by decide)).2
          obtain ⟨u4, e4⟩ := Option.isSome_iff_exists.1 (hth 4 (by decide)).1
          have z4 := (hth 4 (by decide)).2
          obtain ⟨u5, e5⟩ := Option.isSome_iff_exists.1 (hth 5 (by decide)).1
          have z5 := (hth 5 (by decide)).2
          simp only [Nat.add_zero] at e0 z0
          clear hth
          have own2 := own_setCells (LkV.cells ⟨(q0, q1), q2, q3, q4, q5⟩) (i * 6) V _ ownV (by rw [lk_len]; omega)
          rw [flat_setL lk_len _ _ (by rw [HLL.out]; omega)] at own2
          have gr2 := grown_setCells g (LkV.cells ⟨(q0, q1), q2, q3, q4, q5⟩) (i * 6) V
          obtain ⟨U, hU⟩ : ∃ U : World, U = ((((((V.setCell ⟨g, i * 6, none⟩ (.int .i64 q0)).setCell ⟨g, i * 6 + 1, none⟩ (.int .i64 q1)).setCell ⟨g, i * 6 + 2, none⟩ (.int .i64 q2)).setCell ⟨g, i * 6 + 3, none⟩ (.bool q3)).setCell ⟨g, i * 6 + 4, none⟩ (.int .i64 q4)).setCell ⟨g, i * 6 + 5, none⟩ (.int .i64 q5)) := ⟨_, rfl⟩
          have own3 : U.ownsRow B 85 6 (.slice (some ⟨g, 0, none⟩) n cap) n (flat LkV.cells (L.set i ⟨(q0, q1), q2, q3, q4, q5⟩)) := by rw [hU]; exact own2
          have gr3 : w.grownBy U (some g) := by rw [hU]; exact grown_trans hgV gr2
          clear own2 gr2
          go_upto_region 10 with (fail)
          rw [← hU]
          clear hU
          go_wp2
          go_roundw
          case rel => exact ⟨i + 1, j + 1, L.set i ⟨(q0, q1), q2, q3, q4, q5⟩, by go_num, by go_num, by omega, by omega, own3, HKB, HDB, gr3⟩
          case measure => simp [intOf]; omega
      · obtain rfl : n = j := by omega
        have HYL : Hid (YS.length = i ∧ YS = L.take i) := by
          have h1 : YS = L.take i := by rw [HYS.out, hTk.out]
          refine ⟨?_, h1⟩
          rw [h1, List.length_take, HLL.out]
          omega
        have hcq : ∀ q, q < (n - i) * 6 → (wr.cell? ⟨g, i * 6 + q, none⟩).isSome = true ∧ wr.frozen? ⟨g, i * 6 + q, none⟩ = false := fun q hq => own_there hown (by rw [Nat.sub_mul] at hq; omega)
        have hcl := fun ty c => (run_clear_lock wr ty g (i * 6) (n - i) c (by omega) hcq).2
        have HVL : Hid ((Builtin.zeroCells (Value.cells (.agg #[.int .i64 0, .int .i64 0, .int .i64 0, .bool false, .int .i64 0, .int .i64 0])) (n - i)).toList.length = (n - i) * 6) := (run_clear_lock wr 0 g (i * 6) (n - i) 0 (by omega) hcq).1
        obtain ⟨vs, evs⟩ : ∃ vs, vs = (Builtin.zeroCells (Value.cells (.agg #[.int .i64 0, .int .i64 0, .int .i64 0, .bool false, .int .i64 0, .int .i64 0])) (n - i)).toList := ⟨_, rfl⟩
        rw [← evs] at HVL
        simp only [← evs] at hcl
        clear evs hcq
        have hic : i ≤ cap := by omega
        have hin : i ≤ n := by omega
        have hne : ¬ cap = i := by omega
        have hin' : (i : Int) ≤ (n : Int) := by omega
        have hnc : n ≤ cap := by omega
        have HFIN : Hid ((wr.setCells g (i * 6) vs).ownsRow B 85 6 (.slice (some ⟨g, 0, none⟩) i cap) i (flat LkV.cells (L.take i)) ∧ w.grownBy (wr.setCells g (i * 6) vs) (some g)) := by
          have hX : (flat LkV.cells L).length = n * 6 := by rw [flat_len lk_len, HLL.out]
          have hfit : i * 6 + vs.length ≤ n * 6 := by rw [HVL.out, ← Nat.add_mul]; exact Nat.mul_le_mul_right _ (by omega)
          have o1 := own_prefix (own_setCells vs (i * 6) wr _ hown hfit) (k := i) (by omega) (by omega)
          rw [setL_pre _ _ _ (by rw [hX]; exact hfit), flat_take lk_len] at o1
          exact ⟨o1, grown_trans hgr (grown_setCells g vs (i * 6) wr)⟩
        go_wp2
        go_ret
        obtain ⟨y1, y2⟩ := HYL.out
        rw [y1, y2]
        exact ⟨rfl, HFIN.out.1, HFIN.out.2⟩

theorem run_clear_doubt (w : World) (ty : TypeId) (b o m c : Nat) (h0 : 0 < m) (hc : ∀ j, j < m * 3 → (w.cell? ⟨b, o + j, none⟩).isSome = true ∧ w.frozen? ⟨b, o + j, none⟩ = false) :
    (Builtin.zeroCells (Value.cells (.agg #[.int .i64 0, .int .i64 0, .int .i64 0])) m).toList.length = m * 3 ∧ (Builtin.clear_ #[28] ty #[.slice (some ⟨b, o, none⟩) m c]).run Try.prog w = .ok (.tuple #[]) (w.setCells b o (Builtin.zeroCells (Value.cells (.agg #[.int .i64 0, .int .i64 0, .int .i64 0])) m).toList) := by
  have hv : ∀ w, (zeroValue 52).run Try.prog w = .ok (.agg #[.int .i64 0, .int .i64 0, .int .i64 0]) w := fun w => by
    exact Try.zeroValue52 w
  have hl : (Builtin.zeroCells (Value.cells (.agg #[.int .i64 0, .int .i64 0, .int .i64 0])) m).toList.length = m * 3 := by
    rw [Array.length_toList, size_zeroCells]
    rfl
  refine ⟨hl, ?_⟩
  have hst := run_storeCells_cells (P := Try.prog) b o (Builtin.zeroCells (Value.cells (.agg #[.int .i64 0, .int .i64 0, .int .i64 0])) m).toList 0 w (fun j hj => (hc j (by rw [hl] at hj; exact hj)).1) (fun j hj => (hc j (by rw [hl] at hj; exact hj)).2) (by
    intro v hv'
    have := mem_zeroCells hv'
    simp [Value.cells] at this
    subst this
    rfl)
  simp only [Nat.add_zero] at hst
  obtain ⟨q, rfl⟩ : ∃ q, m = q + 1 := ⟨m - 1, by omega⟩
  simp [Builtin.clear_, run_underlying Try.underlying28, hv, hst]


set_option maxRecDepth 100000 in
set_option maxHeartbeats 4000000 in
theorem deleteDoubt_any (fn : Nat) (cps : Array Value) (p : DbV → Bool) (B : Nat) (a : Option Addr) (n cap : Nat) (xs : List DbV) (w : World) (h : w.ownsRow B 52 3 (.slice a n cap) n (flat DbV.cells xs)) (hF : AsksG fn cps DbV.val p (Value.slice a n cap).ownBlock w) :
    Calls Try.prog 51 #[.slice a n cap, .func (.func fn) #[] cps] w fun e w' => e = .returned (.slice a (keep p xs).length cap) ∧ w'.ownsRow B 52 3 (.slice a (keep p xs).length cap) (keep p xs).length (flat DbV.cells (keep p xs)) ∧ w.grownBy w' (Value.slice a n cap).ownBlock := by
  have hl := own_len db_len (by decide) h
  obtain ⟨hrow, _⟩ := own_isRow db_len h hl
  have hIx := fun w' h1 h2 => indexDoubt_any fn cps p a n cap xs w' h1 h2
  obtain ⟨i0, e0⟩ : ∃ R, R = idxI p xs := ⟨_, rfl⟩
  have hi0 := idxI_lt (p := p) (l := xs)
  rw [← e0] at hIx hi0
  by_cases hneg : i0 = -1
  · have hk := keep_all (p := p) (xs := xs) (by rw [← e0]; exact hneg)
    rw [hk, hl]
    subst hneg
    clear e0 hk
    have hA := hF.asks
    go_enter Try.func51, Try.ntmps51
    go_wp2_with (go_at_call 80; refine (hIx _ hrow hA).mono ?_; rintro e w1 ⟨rfl, hb1⟩)
    go_ret
    exact ⟨rfl, own_below h hb1, grown_below hb1 _⟩
  · obtain ⟨i1, rfl⟩ : ∃ i1 : Nat, i0 = (i1 : Int) := ⟨i0.toNat, by omega⟩
    obtain ⟨hi1, hk1⟩ := keep_idx (p := p) (xs := xs) e0.symm
    clear e0 hneg hi0
    rw [hl] at hi1
    obtain ⟨g, off, rfl, _, _⟩ := hrow.2.2.2.2 (by omega)
    have hoff : off = 0 := by
      rcases h.2 with ⟨hv, _⟩ | ⟨g', cap', cur, hv, _⟩
      · simp at hv
      · simp at hv; exact hv.1.2
    subst hoff
    have hcm : n ≤ cap ∧ cap ≤ maxLen := ⟨hrow.2.1, hrow.2.2.1⟩
    unfold maxLen at hcm
    have HK1 : Hid (keep p (xs.take (i1 + 1)) = xs.take i1) := hk1
    have HL : Hid (xs.length = n) := hl
    have hA := hF.asks
    obtain ⟨hEn, hFg⟩ := hF
    have HFG : Hid (∀ (x : DbV) (w' : World), w.grownBy w' (some g) → Calls Try.prog fn (#[DbV.val x] ++ cps) w' fun e w'' => e = .returned (.bool (p x)) ∧ Below w'.heap.size w' w'') := hFg
    unfold Enters at hEn
    clear hl hk1 hFg
    have hgl := h.lt g rfl
    obtain ⟨YS, eYS⟩ : ∃ YS, YS = keep p xs := ⟨_, rfl⟩
    have HYS : Hid (YS = keep p (xs.take n)) := by show _ = _; rw [eYS, List.take_of_length_le (by rw [HL.out]; exact Nat.le_refl _)]
    rw [← eYS]
    clear eYS
    have hm1 : ((i1 : Int) == -1) = false := by rw [beq_eq_false_iff_ne]; omega
    go_enter Try.func51, Try.ntmps51
    go_upto_region 5 with (go_at_call 80; refine (hIx _ hrow hA).mono ?_; rintro e w1 ⟨rfl, hb1⟩)
    have hg1 : w.grownBy w1 (some g) := grown_below hb1 _
    have own1 := own_below h hb1
    clear hA hIx hrow
    go_loopw [5, 6, 7] (fun s5 s6 _ wr => ∃ (i j : Nat) (L : List DbV), s5 = .int .i64 (i : Int) ∧ s6 = .int .i64 (j : Int) ∧ i < j ∧ j ≤ n ∧ wr.ownsRow B 52 3 (.slice (some ⟨g, 0, none⟩) n cap) n (flat DbV.cells L) ∧ Hid (L.take i = keep p (xs.take j)) ∧ Hid (L.drop j = xs.drop j) ∧ w.grownBy wr (some g)) (fun _ s6 _ _ => n - (intOf s6).toNat)
    case atStart => exact ⟨i1, i1 + 1, xs, rfl, by go_num, by omega, by omega, own1, HK1.out.symm, rfl, hg1⟩
    case round =>
      obtain ⟨i, j, L, rfl, rfl, hij, hjn, hown, hTk, hDr, hgr⟩ := hrel
      have hLl := own_len db_len (by decide) hown
      have HLL : Hid (L.length = n) := hLl
      clear hLl
      by_cases hlt : j < n
      · have hlt' : (j : Int) < (n : Int) := by omega
        have HX : Hid (L.getD j default = xs.getD j default) := by
          show _ = _
          have h1 : j < L.length := by rw [HLL.out]; exact hlt
          have h2 : j < xs.length := by rw [HL.out]; exact hlt
          have h3 := hDr.out
          rw [drop_at h1, drop_at h2] at h3
          simp at h3
          simpa [List.getD] using h3.1
        have HD1 : Hid (L.drop (j + 1) = xs.drop (j + 1)) := by
          show _ = _
          have h3 := congrArg (List.drop 1) hDr.out
          simpa [List.drop_drop] using h3
        have HKA : Hid (keep p (xs.take (j + 1)) = L.take i ++ (if p (xs.getD j default) then [] else [xs.getD j default])) := by show _ = _; rw [hTk.out]; exact keep_at (by rw [HL.out]; exact hlt)
        obtain ⟨hrw, _⟩ := own_isRow db_len hown HLL.out
        obtain ⟨b', off', e', zb, hc⟩ := hrw.2.2.2.2 (by omega)
        simp at e'
        obtain ⟨rfl, rfl⟩ := e'
        have hcells := hc j hlt
        rw [HX.out] at hcells
        have hcall := HFG.out (xs.getD j default)
        obtain ⟨x, ex⟩ : ∃ x, x = xs.getD j default := ⟨_, rfl⟩
        rw [← ex] at hcells HKA hcall
        clear ex hc hrw
        obtain ⟨⟨q0, q1⟩, q2⟩ := x
        have a0 := hcells 0 (by decide)
        have a1 := hcells 1 (by decide)
        have a2 := hcells 2 (by decide)
        simp only [DbV.cells, List.getElem?_cons_zero, List.getElem?_cons_succ, Nat.add_zero, Nat.zero_add] at a0 a1 a2
        clear hcells
        simp only [DbV.val] at hcall
        obtain ⟨P, eP⟩ : ∃ P, P = p ⟨(q0, q1), q2⟩ := ⟨_, rfl⟩
        rw [← eP] at HKA hcall
        clear eP
        obtain ⟨V0, hV0⟩ : ∃ V0 : World, V0 = wr.alloc (.cells #[.int .i64 q0, .int .i64 q1, .int .i64 q2] 52) := ⟨_, rfl⟩
        have bV0 : Below wr.heap.size wr V0 := by rw [hV0]; exact (Below.refl _ _).alloc (Nat.le_refl _) _
        have bx := boxn_new wr #[.int .i64 q0, .int .i64 q1, .int .i64 q2] 52 3 rfl
        rw [← hV0] at bx
        have hgV0 : w.grownBy V0 (some g) := grown_trans hgr (grown_below bV0 _)
        go_upto_region 8 with (fail)
        rw [← hV0]
        clear hV0 a0 a1 a2
        have b0 := (bx.c 0 (by decide)).1
        have b1 := (bx.c 1 (by decide)).1
        have b2 := (bx.c 2 (by decide)).1
        simp only [List.getD_cons_zero, List.getD_cons_succ] at b0 b1 b2
        have bxl := bx.lt
        have hgw : g < wr.heap.size := (hown.lt g rfl).2
        cases P with
        | true =>
          have HKB : Hid (L.take i = keep p (xs.take (j + 1))) := by show _ = _; rw [HKA.out]; simp
          go_wp2_with (go_at_fn fn; refine (hcall _ hgV0).mono ?_; rintro e V ⟨rfl, hbV⟩)
          go_roundw
          case rel => exact ⟨i, j + 1, L, rfl, by go_num, by omega, by omega, own_below (own_below hown bV0) hbV, HKB, HD1, grown_trans hgV0 (grown_below hbV _)⟩
          case measure => simp [intOf]; omega
        | false =>
          have HKB : Hid ((L.set i ⟨(q0, q1), q2⟩).take (i + 1) = keep p (xs.take (j + 1))) := by
            show _ = _
            have h1 : i < L.length := by rw [HLL.out]; omega
            rw [HKA.out, List.take_succ_eq_append_getElem (by simpa using h1), List.take_set_of_le (Nat.le_refl _)]
            simp
          have HDB : Hid ((L.set i ⟨(q0, q1), q2⟩).drop (j + 1) = xs.drop (j + 1)) := by
            show _ = _
            rw [List.drop_set_of_lt (by omega)]
            exact HD1.out
          go_upto_region 9 with (go_at_fn fn; refine (hcall _ hgV0).mono ?_; rintro e V ⟨rfl, hbV⟩)
          have ownV := own_below (own_below hown bV0) hbV
          have bxV := bx.below hbV bx.lt
          clear b0 b1 b2 bxl
          have b0 := (bxV.c 0 (by decide)).1
          have b1 := (bxV.c 1 (by decide)).1
          have b2 := (bxV.c 2 (by decide)).1
          simp only [List.getD_cons_zero, List.getD_cons_succ] at b0 b1 b2
          have bxl := bxV.lt
          have hgV : w.grownBy V (some g) := grown_trans hgV0 (grown_below hbV _)
          have hin : (i : Int) < (n : Int) := by omega
          have hth : ∀ q, q < 3 → (V.cell? ⟨g, i * 3 + q, none⟩).isSome = true ∧ V.frozen? ⟨g, i * 3 + q, none⟩ = false := fun q hq => own_there ownV (by omega)
          obtain ⟨u0, e0⟩ := Option.isSome_iff_exists.1 (hth 0 (by decide)).1
          have z0 := (hth 0 (by decide)).2
          obtain ⟨u1, e1⟩ := Option.isSome_iff_exists.1 (hth 1 (by decide)).1
          have z1 := (hth 1 (by decide)).2
          obtain ⟨u2, e2⟩ := Option.isSome_iff_exists.1 (hth 2 (by decide)).1
          have z2 := (hth 2 (by decide)).2
          simp only [Nat.add_zero] at e0 z0
          clear hth
          have own2 := own_setCells (DbV.cells ⟨(q0, q1), q2⟩) (i * 3) V _ ownV (by rw [db_len]; omega)
          rw [flat_setL db_len _ _ (by rw [HLL.out]; omega)] at own2
          have gr2 := grown_setCells g (DbV.cells ⟨(q0, q1), q2⟩) (i * 3) V
          obtain ⟨U, hU⟩ : ∃ U : World, U = (((V.setCell ⟨g, i * 3, none⟩ (.int .i64 q0)).setCell ⟨g, i * 3 + 1, none⟩ (.int .i64 q1)).setCell ⟨g, i * 3 + 2, none⟩ (.int .i64 q2)) := ⟨_, rfl⟩
          have own3 : U.ownsRow B 52 3 (.slice (some ⟨g, 0, none⟩) n cap) n (flat DbV.cells (L.set i ⟨(q0, q1), q2⟩)) := by rw [hU]; exact own2
          have gr3 : w.grownBy U (some g) := by rw [hU]; exact grown_trans hgV gr2
          clear own2 gr2
          go_upto_region 10 with (fail)
          rw [← hU]
          clear hU
          go_wp2
          go_roundw
          case rel => exact ⟨i + 1, j + 1, L.set i ⟨(q0, q1), q2⟩, by go_num, by go_num, by omega, by omega, own3, HKB, HDB, gr3⟩
          case measure => simp [intOf]; omega
      · obtain rfl : n = j := by omega
        have HYL : Hid (YS.length = i ∧ YS = L.take i) := by
          have h1 : YS = L.take i := by rw [HYS.out, hTk.out]
          refine ⟨?_, h1⟩
          rw [h1, List.length_take, HLL.out]
          omega
        have hcq : ∀ q, q < (n - i) * 3 → (wr.cell? ⟨g, i * 3 + q, none⟩).isSome = true ∧ wr.frozen? ⟨g, i * 3 + q, none⟩ = false := fun q hq => own_there hown (by rw [Nat.sub_mul] at hq; omega)
        have hcl := fun ty c => (run_clear_doubt wr ty g (i * 3) (n - i) c (by omega) hcq).2
        have HVL : Hid ((Builtin.zeroCells (Value.cells (.agg #[.int .i64 0, .int .i64 0, .int .i64 0])) (n - i)).toList.length = (n - i) * 3) := (run_clear_doubt wr 0 g (i * 3) (n - i) 0 (by omega) hcq).1
        obtain ⟨vs, evs⟩ : ∃ vs, vs = (Builtin.zeroCells (Value.cells (.agg #[.int .i64 0, .int .i64 0, .int .i64 0])) (n - i)).toList := ⟨_, rfl⟩
        rw [← evs] at HVL
        simp only [← evs] at hcl
        clear evs hcq
        have hic : i ≤ cap := by omega
        have hin : i ≤ n := by omega
        have hne : ¬ cap = i := by omega
        have hin' : (i : Int) ≤ (n : Int) := by omega
        have hnc : n ≤ cap := by omega
        have HFIN : Hid ((wr.setCells g (i * 3) vs).ownsRow B 52 3 (.slice (some ⟨g, 0, none⟩) i cap) i (flat DbV.cells (L.take i)) ∧ w.grownBy (wr.setCells g (i * 3) vs) (some g)) := by
          have hX : (flat DbV.cells L).length = n * 3 := by rw [flat_len db_len, HLL.out]
          have hfit : i * 3 + vs.length ≤ n * 3 := by rw [HVL.out, ← Nat.add_mul]; exact Nat.mul_le_mul_right _ (by omega)
          have o1 := own_prefix (own_setCells vs (i * 3) wr _ hown hfit) (k := i) (by omega) (by omega)
          rw [setL_pre _ _ _ (by rw [hX]; exact hfit), flat_take db_len] at o1
          exact ⟨o1, grown_trans hgr (grown_setCells g vs (i * 3) wr)⟩
        go_wp2
        go_ret
        obtain ⟨y1, y2⟩ := HYL.out
        rw [y1, y2]
        exact ⟨rfl, HFIN.out.1, HFIN.out.2⟩

end Go.Proofs.Ytmkobbgedhlcfaa.St
/- Small laws of rows of the caller's own, for slices.DeleteFunc's callers. -/
namespace Go.Proofs.Ytmkobbgedhlcfaa.St
open Go.ChangeShapes Go.WideShapes Go.ChangeAt Go.RowKit
set_option linter.unusedVariables false

theorem at_same (a : Option Addr) (n n' c X : Nat) : (Value.slice a n' c).ownBlock = (Value.slice a n c).ownBlock ∨ (Value.slice a n' c).ownBlock = some X := .inl (by cases a <;> rfl)
theorem own_block {w : World} {B : Nat} {e : TypeId} {size n c b off : Nat} {xs : List Value} (h : w.ownsRow B e size (.slice (some ⟨b, off, none⟩) n c) n xs) : (Value.slice (some ⟨b, off, none⟩) n c).ownBlock = some b := by
  rcases h.2 with ⟨hv, _⟩ | ⟨g', cap', cur, hv, _⟩
  · simp at hv
  · simp at hv
    obtain ⟨⟨rfl, rfl⟩, rfl⟩ := hv
    rfl
/-- A list that has no block: then no block is left out. -/
theorem forget2_none {α : Type} {fn : Nat} {cps : Array Value} {val : α → Value} {p : α → Bool} {w : World} {n c : Nat} (h : ∀ g, AsksG fn cps val p (some (w.heap.size + g)) w) : AsksG fn cps val p (Value.slice none n c).ownBlock w := by
  refine ⟨(h 0).1, fun x w' hg => (h 0).2 x w' ?_⟩
  exact ⟨hg.os, hg.tape, hg.output, hg.size, fun k hk _ => hg.block k hk (by simp [Value.ownBlock])⟩

end Go.Proofs.Ytmkobbgedhlcfaa.St
/- The contract of store.writesOf: the locks of a transaction that are for writing, in memory of their own; and of Writes. -/
namespace Go.Proofs.Ytmkobbgedhlcfaa.St
open Go.ChangeShapes Go.WideShapes Go.ChangeAt Go.RowKit
set_option linter.unusedVariables false

def wOf (t : Int × Int) (k : LkV) : Bool := k.write && decide (k.t = t)
theorem filter_at {p : LkV → Bool} {xs : List LkV} {j : Nat} (hj : j < xs.length) : (xs.take (j + 1)).filter p = (xs.take j).filter p ++ (if p (xs.getD j default) then [xs.getD j default] else []) := by
  rw [take_at hj, List.filter_append]
  simp only [List.filter_cons, List.filter_nil]

set_option maxRecDepth 100000 in
set_option maxHeartbeats 4000000 in
theorem writesOf_any (s : SV) (t : Int × Int) (w : World) (h : IsLocks w s.la s.ll s.lc s.locks) (h24 : s.ll ≤ 24) :
    Calls Try.prog 35 #[s.val, .agg #[.int .i64 t.1, .int .i64 t.2]] w fun e w' => ∃ (ao : Option Addr) (cp : Nat), e = .returned (.slice ao (s.locks.filter (wOf t)).length cp) ∧ IsLocks w' ao (s.locks.filter (wOf t)).length cp (s.locks.filter (wOf t)) ∧ (∀ b off, ao = some ⟨b, off, none⟩ → w.heap.size ≤ b ∧ b < w'.heap.size) ∧ Below w.heap.size w w' := by
  obtain ⟨i0, hi, li0, li1, li2⟩ := info_parts lkInfo
  obtain ⟨ia, il, ic, la, ll, lc, da, dl, dc, oa, ol, oc, items, locks, doubts, over⟩ := s
  obtain ⟨ts, tn⟩ := t
  simp only [SV.val] at *
  obtain ⟨hlen, hcap, hmax, _, hmem⟩ := h
  have HL : Hid (locks.length = ll) := hlen
  clear hlen
  unfold maxLen at hmax
  obtain ⟨P, eP⟩ : ∃ P, P = wOf (ts, tn) := ⟨_, rfl⟩
  have EP : Hid (∀ y, P y = (y.write && decide (y.t = (ts, tn)))) := by show ∀ _, _; rw [eP]; intro y; rfl
  rw [← eP]
  clear eP
  obtain ⟨W, hW⟩ : ∃ W : World, W = (w.alloc (.cells #[.slice ia il ic, .slice la ll lc, .slice da dl dc, .slice oa ol oc] 31)).alloc (.cells #[.int .i64 ts, .int .i64 tn] 43) := ⟨_, rfl⟩
  have hB : Below w.heap.size w W := by rw [hW]; exact ((Below.refl _ _).alloc (Nat.le_refl _) _).alloc (by simp) _
  have zW : W.heap.size = w.heap.size + 2 := by rw [hW]; simp
  have z0 : w.heap.size < W.heap.size := by omega
  have z1 : w.heap.size + 1 < W.heap.size := by omega
  clear zW
  have c0 : W.cell? ⟨w.heap.size, 0, none⟩ = some (.slice ia il ic) := by rw [hW]; go_simp
  have c1 : W.cell? ⟨w.heap.size, 1, none⟩ = some (.slice la ll lc) := by rw [hW]; go_simp
  have c2 : W.cell? ⟨w.heap.size, 2, none⟩ = some (.slice da dl dc) := by rw [hW]; go_simp
  have c3 : W.cell? ⟨w.heap.size, 3, none⟩ = some (.slice oa ol oc) := by rw [hW]; go_simp
  have c4 : W.cell? ⟨w.heap.size + 1, 0, none⟩ = some (.int .i64 ts) := by rw [hW]; go_simp
  have c5 : W.cell? ⟨w.heap.size + 1, 1, none⟩ = some (.int .i64 tn) := by rw [hW]; go_simp
  have KA : Hid (∀ U : World, Below W.heap.size W U → U.cell? ⟨w.heap.size, 0, none⟩ = some (.slice ia il ic) ∧ U.cell? ⟨w.heap.size, 1, none⟩ = some (.slice la ll lc) ∧ U.cell? ⟨w.heap.size, 2, none⟩ = some (.slice da dl dc) ∧ U.cell? ⟨w.heap.size, 3, none⟩ = some (.slice oa ol oc) ∧ U.cell? ⟨w.heap.size + 1, 0, none⟩ = some (.int .i64 ts) ∧ U.cell? ⟨w.heap.size + 1, 1, none⟩ = some (.int .i64 tn)) := fun U hU =>
    ⟨(hU.cell (p := ⟨w.heap.size, 0, none⟩) z0).trans c0, (hU.cell (p := ⟨w.heap.size, 1, none⟩) z0).trans c1, (hU.cell (p := ⟨w.heap.size, 2, none⟩) z0).trans c2, (hU.cell (p := ⟨w.heap.size, 3, none⟩) z0).trans c3, (hU.cell (p := ⟨w.heap.size + 1, 0, none⟩) z1).trans c4, (hU.cell (p := ⟨w.heap.size + 1, 1, none⟩) z1).trans c5⟩
  go_enter Try.func35, Try.ntmps35
  go_wp2
  rw [← hW]
  clear hW
  go_loopw [5, 11] (fun s5 s11 wr => ∃ (k : Nat) (ys : List LkV) (ao : Option Addr) (cp : Nat), k ≤ ll ∧ s11 = .int .i64 k ∧ s5 = .slice ao ys.length cp ∧ wr.ownsRow W.heap.size 85 6 (.slice ao ys.length cp) ys.length (flat LkV.cells ys) ∧ Hid (ys = (locks.take k).filter P) ∧ ys.length ≤ k ∧ Below W.heap.size W wr) (fun _ s11 _ => ll - (intOf s11).toNat)
  case atStart => exact ⟨0, [], none, 0, Nat.zero_le _, rfl, rfl, World.ownsRow_nil _ _ _ _, by show _ = _; simp, Nat.le_refl _, Below.refl _ _⟩
  case round =>
    obtain ⟨k, ys, ao, cp, hk, rfl, rfl, hown, hys, hyk, hb⟩ := hrel
    have hwr := hB.trans (hb.mono hB.size)
    clear c0 c1 c2 c3 c4 c5
    obtain ⟨c0, c1, c2, c3, c4, c5⟩ := KA.out _ hb
    by_cases hlt : k < ll
    · have hlt' : (k : Int) < (ll : Int) := by omega
      obtain ⟨b, off, rfl, zb, hc⟩ := hmem (by omega)
      have hkl : k < locks.length := by have := HL.out; omega
      have hcells := hc k hlt
      have n1 := filter_at (p := P) hkl
      obtain ⟨x, ex⟩ : ∃ x, x = locks.getD k default := ⟨_, rfl⟩
      rw [← ex] at hcells n1
      clear ex
      rw [EP.out, ← hys.out] at n1
      have N1 : Hid ((locks.take (k + 1)).filter P = ys ++ (if (x.write && decide (x.t = (ts, tn))) = true then [x] else [])) := n1
      clear n1 hys
      obtain ⟨⟨site, num⟩, key, write, value, ask⟩ := x
      have a0 := hcells 0 (by decide)
      have a1 := hcells 1 (by decide)
      have a2 := hcells 2 (by decide)
      have a3 := hcells 3 (by decide)
      have a4 := hcells 4 (by decide)
      have a5 := hcells 5 (by decide)
      simp [LkV.cells] at a0 a1 a2 a3 a4 a5
      rw [← hwr.cell (p := ⟨b, off + k * 6, none⟩) zb] at a0
      rw [← hwr.cell (p := ⟨b, off + k * 6 + 1, none⟩) zb] at a1
      rw [← hwr.cell (p := ⟨b, off + k * 6 + 2, none⟩) zb] at a2
      rw [← hwr.cell (p := ⟨b, off + k * 6 + 3, none⟩) zb] at a3
      rw [← hwr.cell (p := ⟨b, off + k * 6 + 4, none⟩) zb] at a4
      rw [← hwr.cell (p := ⟨b, off + k * 6 + 5, none⟩) zb] at a5
      clear hcells hc
      obtain ⟨V, hV⟩ : ∃ V : World, V = wr.alloc (.cells #[.int .i64 site, .int .i64 num, .int .i64 key, .bool write, .int .i64 value, .int .i64 ask] 85) := ⟨_, rfl⟩
      have bV : Below W.heap.size W V := by rw [hV]; exact hb.alloc hb.size _
      have oV : V.ownsRow W.heap.size 85 6 (.slice ao ys.length cp) ys.length (flat LkV.cells ys) := by rw [hV]; exact hown.alloc _
      have zV : wr.heap.size < V.heap.size := by rw [hV]; simp
      have b0 : V.cell? ⟨wr.heap.size, 0, none⟩ = some (.int .i64 site) := by rw [hV]; go_simp
      have b1 : V.cell? ⟨wr.heap.size, 1, none⟩ = some (.int .i64 num) := by rw [hV]; go_simp
      have b2 : V.cell? ⟨wr.heap.size, 2, none⟩ = some (.int .i64 key) := by rw [hV]; go_simp
      have b3 : V.cell? ⟨wr.heap.size, 3, none⟩ = some (.bool write) := by rw [hV]; go_simp
      have b4 : V.cell? ⟨wr.heap.size, 4, none⟩ = some (.int .i64 value) := by rw [hV]; go_simp
      have b5 : V.cell? ⟨wr.heap.size, 5, none⟩ = some (.int .i64 ask) := by rw [hV]; go_simp
      go_upto_region 5 with (fail)
      rw [← hV]
      clear hV a0 a1 a2 a3 a4 a5 c0 c1 c2 c3 c4 c5
      obtain ⟨c0, c1, c2, c3, c4, c5⟩ := KA.out _ bV
      obtain ⟨T, eT⟩ : ∃ T, T = (write && decide ((site, num) = (ts, tn))) := ⟨_, rfl⟩
      simp only at N1
      rw [← eT] at N1
      have ET : Hid (T = (write && decide ((site, num) = (ts, tn)))) := eT
      clear eT
      go_cut [22] (fun s22 wc => s22 = .bool T ∧ wc = V)
      case first =>
        clear N1
        go_wp2
        all_goals go_meet
        all_goals (refine ⟨?_, rfl⟩; rw [ET.out]; first | (simp_all; done) | (simp_all; rfl) | (simp_all; omega))
      case rest =>
        obtain ⟨rfl, rfl⟩ := hcut
        cases T with
        | false =>
          go_wp2
          go_roundw
          case rel => exact ⟨k + 1, ys, ao, cp, by omega, by go_num, rfl, oV, by show _ = _; rw [N1.out]; simp, by omega, bV⟩
          case measure => simp [intOf]; omega
        | true =>
          have zX : W.heap.size ≤ wc.heap.size := bV.size
          have hne : ∀ m, (Value.slice ao ys.length cp).ownBlock = some m → W.heap.size ≤ m ∧ m < wc.heap.size := fun m hm => oV.lt m hm
          go_upto_region 7 with (at_builtin; refine wpList_append_lies _ (by rfl) (.tmp 23) (.tmp 25) 27 (by rfl) W.heap.size 85 i0 (.agg #[.int .i64 0, .int .i64 0, .int .i64 0, .bool false, .int .i64 0, .int .i64 0]) 6 48 Try.underlying27 hi li0 li1 li2 rfl (by decide) (.slice ao ys.length cp) ys.length (flat LkV.cells ys) (by rfl) (oV.alloc _) ⟨wc.heap.size, 0, none⟩ 1 1 (LkV.cells ⟨(site, num), key, write, value, ask⟩) (by rfl) rfl (news_at #[.int .i64 site, .int .i64 num, .int .i64 key, .bool write, .int .i64 value, .int .i64 ask] _ rfl) (lk_one _) (by omega) (by unfold maxLen; omega) (by omega) (by simp; omega) _ rfl ?_; intro g5 c5' w5 own5 gr5 at5 lt5)
          have hb5 : Below W.heap.size W w5 := (bV.alloc bV.size _).grown gr5 (by simp; omega) (fun q hq => (hne q hq).1)
          have ezs : Hid ((locks.take (k + 1)).filter P = ys ++ [⟨(site, num), key, write, value, ask⟩]) := by show _ = _; rw [N1.out]; simp
          have hO : w5.ownsRow W.heap.size 85 6 (.slice (some ⟨g5, 0, none⟩) (ys.length + 1) c5') (ys.length + 1) (flat LkV.cells (ys ++ [⟨(site, num), key, write, value, ask⟩])) := by
            rw [flat_append]
            simpa [flat] using own5
          obtain ⟨zs, ez⟩ : ∃ zs, zs = ys ++ [(⟨(site, num), key, write, value, ask⟩ : LkV)] := ⟨_, rfl⟩
          have elz : Hid (zs.length = ys.length + 1) := by rw [ez]; show _ = _; simp
          rw [← ez] at ezs hO
          clear ez
          go_wp2
          go_roundw
          case rel =>
            refine ⟨k + 1, zs, some ⟨g5, 0, none⟩, c5', by omega, by go_num, ?_, ?_, ezs.out.symm, ?_, hb5⟩
            · rw [elz.out]
            · rw [elz.out]; exact hO
            · rw [elz.out]; omega
          case measure => simp [intOf]; omega
    · have hke : k = ll := by omega
      have etk : locks.take k = locks := List.take_of_length_le (by have := HL.out; omega)
      have hy' := hys.out
      rw [etk] at hy'
      clear etk hke hys
      subst hy'
      obtain ⟨hR, hN⟩ := own_isRow lk_len hown rfl
      go_wp2
      go_ret
      exact ⟨ao, cp, rfl, hR, fun b off e => by have := hN b off e; have := hB.size; omega, hwr⟩

def cntErr (s : SV) (t : Int × Int) : Int := if storeOK s then (if txOK t then 0 else 2) else 9
def cntIs (s : SV) (t : Int × Int) : Int := if cntErr s t = 0 then ((s.locks.filter (wOf t)).length : Int) else 0
theorem ok_24 {s : SV} (h : storeOK s = true) : s.locks.length ≤ 24 := by
  unfold storeOK locksOK at h
  simp only [Bool.and_eq_true, decide_eq_true_eq] at h
  exact h.1.1.2.1
end Go.Proofs.Ytmkobbgedhlcfaa.St
