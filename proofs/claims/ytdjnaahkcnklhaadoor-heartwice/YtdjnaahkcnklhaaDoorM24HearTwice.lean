/- Texts of this claim, one behind the other. -/
import Derived.Test.YtdjnaahkcnklhaaDoorM12HearTwice
import Derived.Test.YtdjnaahkcnklhaaDoorM23HearTwice
/- slices.IndexFunc, DeleteFunc, Index and Contains over numbers. -/
namespace Go.Proofs.YtdjnaahkcnklhaaDoor.Co
open Go.ChangeShapes Go.WideShapes Go.ChangeAt Go.RowKit
open Go.Proofs.YtdjnaahkcnklhaaDoor.St
set_option linter.unusedVariables false
def inVal (n : Int) : Value := .int .i64 n
set_option maxHeartbeats 1000000 in
theorem indexInt_any (fn : Nat) (cps : Array Value) (p : Int → Bool) (a : Option Addr) (len cap : Nat) (xs : List Int) (w : World) (h : IsSites w a len cap xs) (hF : Asks fn cps inVal p w) :
    Calls Tryd.prog 85 #[.slice a len cap, .func (.func fn) #[] cps] w fun e w' => e = .returned (.int .i64 (idxI p xs)) ∧ Below w.heap.size w w' := by
  obtain ⟨hlen, hcap, hmax, _, hmem⟩ := h
  obtain ⟨hE, hF⟩ := hF
  unfold Enters at hE
  have HL : Hid (xs.length = len) := hlen
  clear hlen
  unfold maxLen at hmax
  go_enter Tryd.func85, Tryd.ntmps85
  go_wp2
  go_loopw [8] (fun s8 wr => ∃ (k : Nat), k ≤ len ∧ s8 = .int .i64 k ∧ (∀ i, i < k → p (xs.getD i default) = false) ∧ Below w.heap.size w wr) (fun s8 _ => len - (intOf s8).toNat)
  case atStart => exact ⟨0, Nat.zero_le _, rfl, fun i hi => absurd hi (by omega), Below.refl _ _⟩
  case round =>
    obtain ⟨k, hk, rfl, hnot, hb⟩ := hrel
    by_cases hlt : k < len
    · have hlt' : (k : Int) < (len : Int) := by omega
      obtain ⟨b, off, rfl, zb, hc⟩ := hmem (by omega)
      have hcells := hc k hlt
      have hx := hF (xs.getD k default) wr hb
      have hhit := idxI_hit (p := p) (l := xs) (k := k) (by have := HL.out; omega) hnot
      have hnot' : p (xs.getD k default) = false → ∀ i, i < k + 1 → p (xs.getD i default) = false := fun hf i hi => by
        by_cases e : i = k
        · rw [e]; exact hf
        · exact hnot i (by omega)
      obtain ⟨x, ex⟩ : ∃ x, x = xs.getD k default := ⟨_, rfl⟩
      rw [← ex] at hcells hx hhit hnot'
      clear ex
      have a0 := hcells 0 (by decide)
      simp [inCell] at a0
      rw [← hb.cell (p := ⟨b, off + k, none⟩) zb] at a0
      clear hcells hc
      simp only [inVal] at hx
      obtain ⟨P, eP⟩ : ∃ P, P = p x := ⟨_, rfl⟩
      rw [← eP] at hx hhit hnot'
      clear eP
      cases P with
      | true =>
        have hh := hhit rfl
        clear hhit hnot'
        go_wp2_with (go_at_fn fn; refine (hx).mono ?_; rintro e w1 ⟨rfl, hb1⟩)
        go_ret
        exact ⟨by rw [hh]; rfl, hb.trans (hb1.mono hb.size)⟩
      | false =>
        have hh := hnot' rfl
        clear hhit hnot'
        go_wp2_with (go_at_fn fn; refine (hx).mono ?_; rintro e w1 ⟨rfl, hb1⟩)
        go_roundw
        case rel => exact ⟨k + 1, by omega, by go_num, hh, hb.trans (hb1.mono hb.size)⟩
        case measure => simp [intOf]; omega
    · have hfin : idxI p xs = -1 := idxI_none (fun i hi => hnot i (by have := HL.out; omega))
      go_wp2
      go_ret
      exact ⟨by rw [hfin]; rfl, hb⟩

theorem run_clear_int (w : World) (ty : TypeId) (b o m c : Nat) (h0 : 0 < m) (hc : ∀ j, j < m * 1 → (w.cell? ⟨b, o + j, none⟩).isSome = true ∧ w.frozen? ⟨b, o + j, none⟩ = false) :
    (Builtin.zeroCells (Value.cells (.int .i64 0)) m).toList.length = m * 1 ∧ (Builtin.clear_ #[49] ty #[.slice (some ⟨b, o, none⟩) m c]).run Tryd.prog w = .ok (.tuple #[]) (w.setCells b o (Builtin.zeroCells (Value.cells (.int .i64 0)) m).toList) := by
  have hv : ∀ w, (zeroValue 3).run Tryd.prog w = .ok (.int .i64 0) w := fun w => by
    exact Tryd.zeroValue3 w
  have hl : (Builtin.zeroCells (Value.cells (.int .i64 0)) m).toList.length = m * 1 := by
    rw [Array.length_toList, size_zeroCells]
    rfl
  refine ⟨hl, ?_⟩
  have hst := run_storeCells_cells (P := Tryd.prog) b o (Builtin.zeroCells (Value.cells (.int .i64 0)) m).toList 0 w (fun j hj => (hc j (by rw [hl] at hj; exact hj)).1) (fun j hj => (hc j (by rw [hl] at hj; exact hj)).2) (by
    intro v hv'
    have := mem_zeroCells hv'
    simp [Value.cells] at this
    subst this; rfl)
  simp only [Nat.add_zero] at hst
  obtain ⟨q, rfl⟩ : ∃ q, m = q + 1 := ⟨m - 1, by omega⟩
  simp [Builtin.clear_, run_underlying Tryd.underlying49, hv, hst]


set_option maxRecDepth 100000 in
set_option maxHeartbeats 4000000 in
theorem deleteInt_any (fn : Nat) (cps : Array Value) (p : Int → Bool) (B : Nat) (a : Option Addr) (n cap : Nat) (xs : List Int) (w : World) (h : w.ownsRow B 3 1 (.slice a n cap) n (flat inCell xs)) (hF : AsksG fn cps inVal p (Value.slice a n cap).ownBlock w) :
    Calls Tryd.prog 64 #[.slice a n cap, .func (.func fn) #[] cps] w fun e w' => e = .returned (.slice a (keep p xs).length cap) ∧ w'.ownsRow B 3 1 (.slice a (keep p xs).length cap) (keep p xs).length (flat inCell (keep p xs)) ∧ w.grownBy w' (Value.slice a n cap).ownBlock := by
  have hl := own_len in_len (by decide) h
  obtain ⟨hrow, _⟩ := own_isRow in_len h hl
  have hIx := fun w' h1 h2 => indexInt_any fn cps p a n cap xs w' h1 h2
  obtain ⟨i0, e0⟩ : ∃ R, R = idxI p xs := ⟨_, rfl⟩
  have hi0 := idxI_lt (p := p) (l := xs)
  rw [← e0] at hIx hi0
  by_cases hneg : i0 = -1
  · have hk := keep_all (p := p) (xs := xs) (by rw [← e0]; exact hneg)
    rw [hk, hl]
    subst hneg
    clear e0 hk
    have hA := hF.asks
    go_enter Tryd.func64, Tryd.ntmps64
    go_wp2_with (go_at_call 85; refine (hIx _ hrow hA).mono ?_; rintro e w1 ⟨rfl, hb1⟩)
    go_ret
    exact ⟨rfl, own_below h hb1, grown_below hb1 _⟩
  · obtain ⟨i1, rfl⟩ : ∃ i1 : Nat, i0 = (i1 : Int) := ⟨i0.toNat, by omega⟩
    obtain ⟨hi1, hk1⟩ := keep_idx (p := p) (xs := xs) e0.symm
    clear e0 hneg hi0
    rw [hl] at hi1
    obtain ⟨g, off, rfl, _, _⟩ := hrow.2.2.2.2 (by omega)
    have hoff : off = 0 := by
      rcases h.2 with ⟨hv, _⟩ | ⟨g', cap', cur, hv, _⟩
      · simp at hv
      · simp at hv; exact hv.1.2
    subst hoff
    have hcm : n ≤ cap ∧ cap ≤ maxLen := ⟨hrow.2.1, hrow.2.2.1⟩
    unfold maxLen at hcm
    have HK1 : Hid (keep p (xs.take (i1 + 1)) = xs.take i1) := hk1
    have HL : Hid (xs.length = n) := hl
    have hA := hF.asks
    obtain ⟨hEn, hFg⟩ := hF
    have HFG : Hid (∀ (x : Int) (w' : World), w.grownBy w' (some g) → Calls Tryd.prog fn (#[inVal x] ++ cps) w' fun e w'' => e = .returned (.bool (p x)) ∧ Below w'.heap.size w' w'') := hFg
    unfold Enters at hEn
    clear hl hk1 hFg
    have hgl := h.lt g rfl
    obtain ⟨YS, eYS⟩ : ∃ YS, YS = keep p xs := ⟨_, rfl⟩
    have HYS : Hid (YS = keep p (xs.take n)) := by show _ = _; rw [eYS, List.take_of_length_le (by rw [HL.out]; exact Nat.le_refl _)]
    rw [← eYS]
    clear eYS
    have hm1 : ((i1 : Int) == -1) = false := by rw [beq_eq_false_iff_ne]; omega
    go_enter Tryd.func64, Tryd.ntmps64
    go_upto_region 5 with (go_at_call 85; refine (hIx _ hrow hA).mono ?_; rintro e w1 ⟨rfl, hb1⟩)
    have hg1 : w.grownBy w1 (some g) := grown_below hb1 _
    have own1 := own_below h hb1
    clear hA hIx hrow
    go_loopw [5, 6, 7] (fun s5 s6 _ wr => ∃ (i j : Nat) (L : List Int), s5 = .int .i64 (i : Int) ∧ s6 = .int .i64 (j : Int) ∧ i < j ∧ j ≤ n ∧ wr.ownsRow B 3 1 (.slice (some ⟨g, 0, none⟩) n cap) n (flat inCell L) ∧ Hid (L.take i = keep p (xs.take j)) ∧ Hid (L.drop j = xs.drop j) ∧ w.grownBy wr (some g)) (fun _ s6 _ _ => n - (intOf s6).toNat)
    case atStart => exact ⟨i1, i1 + 1, xs, rfl, by go_num, by omega, by omega, own1, HK1.out.symm, rfl, hg1⟩
    case round =>
      obtain ⟨i, j, L, rfl, rfl, hij, hjn, hown, hTk, hDr, hgr⟩ := hrel
      have hLl := own_len in_len (by decide) hown
      have HLL : Hid (L.length = n) := hLl
      clear hLl
      by_cases hlt : j < n
      · have hlt' : (j : Int) < (n : Int) := by omega
        have HX : Hid (L.getD j default = xs.getD j default) := by
          show _ = _
          have h1 : j < L.length := by rw [HLL.out]; exact hlt
          have h2 : j < xs.length := by rw [HL.out]; exact hlt
          have h3 := hDr.out
          rw [drop_at h1, drop_at h2] at h3
          simp at h3
          simpa [List.getD] using h3.1
        have HD1 : Hid (L.drop (j + 1) = xs.drop (j + 1)) := by
          show _ = _
          have h3 := congrArg (List.drop 1) hDr.out
          simpa [List.drop_drop] using h3
        have HKA : Hid (keep p (xs.take (j + 1)) = L.take i ++ (if p (xs.getD j default) then [] else [xs.getD j default])) := by show _ = _; rw [hTk.out]; exact keep_at (by rw [HL.out]; exact hlt)
        obtain ⟨hrw, _⟩ := own_isRow in_len hown HLL.out
        obtain ⟨b', off', e', zb, hc⟩ := hrw.2.2.2.2 (by omega)
        simp at e'
        obtain ⟨rfl, rfl⟩ := e'
        have hcells := hc j hlt
        rw [HX.out] at hcells
        have hcall := HFG.out (xs.getD j default)
        obtain ⟨x, ex⟩ : ∃ x, x = xs.getD j default := ⟨_, rfl⟩
        rw [← ex] at hcells HKA hcall
        clear ex hc hrw
        have a0 := hcells 0 (by decide)
        simp only [inCell, List.getElem?_cons_zero, Nat.add_zero, Nat.zero_add, Nat.mul_one] at a0
        clear hcells
        simp only [inVal] at hcall
        obtain ⟨P, eP⟩ : ∃ P, P = p x := ⟨_, rfl⟩
        rw [← eP] at HKA hcall
        clear eP
        have hgw : g < wr.heap.size := (hown.lt g rfl).2
        cases P with
        | true =>
          have HKB : Hid (L.take i = keep p (xs.take (j + 1))) := by show _ = _; rw [HKA.out]; simp
          go_wp2_with (go_at_fn fn; refine (hcall _ hgr).mono ?_; rintro e V ⟨rfl, hbV⟩)
          go_roundw
          case rel => exact ⟨i, j + 1, L, rfl, by go_num, by omega, by omega, own_below hown hbV, HKB, HD1, grown_trans hgr (grown_below hbV _)⟩
          case measure => simp [intOf]; omega
        | false =>
          have HKB : Hid ((L.set i x).take (i + 1) = keep p (xs.take (j + 1))) := by
            show _ = _
            have h1 : i < L.length := by rw [HLL.out]; omega
            rw [HKA.out, List.take_succ_eq_append_getElem (by simpa using h1), List.take_set_of_le (Nat.le_refl _)]
            simp
          have HDB : Hid ((L.set i x).drop (j + 1) = xs.drop (j + 1)) := by
            show _ = _
            rw [List.drop_set_of_lt (by omega)]
            exact HD1.out
          go_upto_region 9 with (go_at_fn fn; refine (hcall _ hgr).mono ?_; rintro e V ⟨rfl, hbV⟩)
          have ownV := own_below hown hbV
          have hgV : w.grownBy V (some g) := grown_trans hgr (grown_below hbV _)
          have hin : (i : Int) < (n : Int) := by omega
          have hth := own_there (k := i) ownV (by omega)
          obtain ⟨u0, e0⟩ := Option.isSome_iff_exists.1 hth.1
          have z0 := hth.2
          clear hth
          have own2 := own_setCells (inCell x) (i * 1) V _ ownV (by rw [in_len]; omega)
          rw [flat_setL in_len _ _ (by rw [HLL.out]; omega)] at own2
          have gr2 := grown_setCells g (inCell x) (i * 1) V
          obtain ⟨U, hU⟩ : ∃ U : World, U = V.setCell ⟨g, i, none⟩ (.int .i64 x) := ⟨_, rfl⟩
          simp only [Nat.mul_one] at own2 gr2
          have own3 : U.ownsRow B 3 1 (.slice (some ⟨g, 0, none⟩) n cap) n (flat inCell (L.set i x)) := by rw [hU]; exact own2
          have gr3 : w.grownBy U (some g) := by rw [hU]; exact grown_trans hgV gr2
          clear own2 gr2
          go_upto_region 10 with (fail)
          rw [← hU]
          clear hU
          go_wp2
          go_roundw
          case rel => exact ⟨i + 1, j + 1, L.set i x, by go_num, by go_num, by omega, by omega, own3, HKB, HDB, gr3⟩
          case measure => simp [intOf]; omega
      · obtain rfl : n = j := by omega
        have HYL : Hid (YS.length = i ∧ YS = L.take i) := by
          have h1 : YS = L.take i := by rw [HYS.out, hTk.out]
          refine ⟨?_, h1⟩
          rw [h1, List.length_take, HLL.out]
          omega
        have hcq : ∀ q, q < (n - i) * 1 → (wr.cell? ⟨g, i + q, none⟩).isSome = true ∧ wr.frozen? ⟨g, i + q, none⟩ = false := fun q hq => own_there hown (by omega)
        have hcl := fun ty c => (run_clear_int wr ty g i (n - i) c (by omega) hcq).2
        have HVL : Hid ((Builtin.zeroCells (Value.cells (.int .i64 0)) (n - i)).toList.length = (n - i) * 1) := (run_clear_int wr 0 g i (n - i) 0 (by omega) hcq).1
        obtain ⟨vs, evs⟩ : ∃ vs, vs = (Builtin.zeroCells (Value.cells (.int .i64 0)) (n - i)).toList := ⟨_, rfl⟩
        rw [← evs] at HVL
        simp only [← evs] at hcl
        clear evs hcq
        have hic : i ≤ cap := by omega
        have hin : i ≤ n := by omega
        have hne : ¬ cap = i := by omega
        have hin' : (i : Int) ≤ (n : Int) := by omega
        have hnc : n ≤ cap := by omega
        have HFIN : Hid ((wr.setCells g i vs).ownsRow B 3 1 (.slice (some ⟨g, 0, none⟩) i cap) i (flat inCell (L.take i)) ∧ w.grownBy (wr.setCells g i vs) (some g)) := by
          have hX : (flat inCell L).length = n * 1 := by rw [flat_len in_len, HLL.out]
          have hfit : i + vs.length ≤ n * 1 := by rw [HVL.out]; omega
          have o1 := own_prefix (own_setCells vs i wr _ hown hfit) (k := i) (by omega) (by omega)
          have e9 := flat_take in_len L i
          rw [Nat.mul_one] at e9 o1
          rw [setL_pre _ _ _ (by rw [hX]; exact hfit), e9] at o1
          exact ⟨o1, grown_trans hgr (grown_setCells g vs i wr)⟩
        go_wp2
        go_ret
        obtain ⟨y1, y2⟩ := HYL.out
        rw [y1, y2]
        exact ⟨rfl, HFIN.out.1, HFIN.out.2⟩


set_option maxHeartbeats 1000000 in
theorem idxInt_any (x : Int) (a : Option Addr) (len cap : Nat) (xs : List Int) (w : World) (h : IsSites w a len cap xs) :
    Calls Tryd.prog 82 #[.slice a len cap, .int .i64 x] w fun e w' => e = .returned (.int .i64 (idxI (fun y => x == y) xs)) ∧ Below w.heap.size w w' := by
  obtain ⟨hlen, hcap, hmax, _, hmem⟩ := h
  have HL : Hid (xs.length = len) := hlen
  clear hlen
  unfold maxLen at hmax
  go_enter Tryd.func82, Tryd.ntmps82
  go_wp2
  go_loopw [5, 8] (fun _ s8 wr => ∃ (k : Nat), k ≤ len ∧ s8 = .int .i64 k ∧ (∀ i, i < k → (x == xs.getD i default) = false) ∧ Below w.heap.size w wr) (fun _ s8 _ => len - (intOf s8).toNat)
  case atStart => exact ⟨0, Nat.zero_le _, rfl, fun i hi => absurd hi (by omega), Below.refl _ _⟩
  case round =>
    obtain ⟨k, hk, rfl, hnot, hb⟩ := hrel
    by_cases hlt : k < len
    · have hlt' : (k : Int) < (len : Int) := by omega
      obtain ⟨b, off, rfl, zb, hc⟩ := hmem (by omega)
      have hhit := idxI_hit (p := fun y => x == y) (l := xs) (k := k) (by have := HL.out; omega) hnot
      have hnot' : (x == xs.getD k default) = false → ∀ i, i < k + 1 → (x == xs.getD i default) = false := fun hf i hi => by
        by_cases e : i = k
        · rw [e]; exact hf
        · exact hnot i (by omega)
      have a0 := hc k hlt 0 (by decide)
      rw [Nat.mul_one, Nat.add_zero] at a0
      obtain ⟨y, ey⟩ : ∃ y, y = xs.getD k default := ⟨_, rfl⟩
      simp only [inCell, List.getElem?_cons_zero] at a0
      rw [← ey] at a0 hhit hnot'
      rw [← hb.cell (p := ⟨b, off + k, none⟩) zb] at a0
      clear ey hc
      obtain ⟨P, eP⟩ : ∃ P, P = (x == y) := ⟨_, rfl⟩
      have eP' := eP.symm
      rw [← eP] at hhit hnot'
      clear eP
      have HN : Hid (P = false → ∀ i, i < k + 1 → (x == xs.getD i default) = false) := hnot'
      have HH : Hid (P = true → idxI (fun y => x == y) xs = k) := hhit
      clear hnot hhit hnot'
      cases P with
      | true =>
        go_wp2
        go_ret
        exact ⟨by rw [HH.out trivial]; rfl, hb⟩
      | false =>
        go_wp2
        go_roundw
        case rel => exact ⟨k + 1, by omega, by go_num, HN.out rfl, hb⟩
        case measure => simp [intOf]; omega
    · have hfin : idxI (fun y => x == y) xs = -1 := idxI_none (fun i hi => hnot i (by have := HL.out; omega))
      go_wp2
      go_ret
      exact ⟨by rw [hfin]; rfl, hb⟩
theorem contInt_any (x : Int) (a : Option Addr) (len cap : Nat) (xs : List Int) (w : World) (h : IsSites w a len cap xs) :
    Calls Tryd.prog 59 #[.slice a len cap, .int .i64 x] w fun e w' => e = .returned (.bool (xs.any fun y => x == y)) ∧ Below w.heap.size w w' := by
  have hI := fun U h1 => idxInt_any x a len cap xs U h1
  have hA := idxI_any (fun y => x == y) xs
  obtain ⟨R, eR⟩ : ∃ R, R = idxI (fun y => x == y) xs := ⟨_, rfl⟩
  rw [← eR] at hI hA
  rw [← hA]
  clear eR hA
  go_enter Tryd.func59, Tryd.ntmps59
  go_wp2_with (go_at_call 82; refine (hI _ h).mono ?_; rintro e w1 ⟨rfl, hb1⟩)
  go_ret
  exact ⟨rfl, hb1⟩
end Go.Proofs.YtdjnaahkcnklhaaDoor.Co
/- The clerk's ack and doubts. -/
namespace Go.Proofs.YtdjnaahkcnklhaaDoor.Co
open Go.ChangeShapes Go.WideShapes Go.ChangeAt Go.RowKit
open Go.Proofs.YtdjnaahkcnklhaaDoor.St (BoxN boxn_new own_below grown_setCell IsRow Elem flat flat_append own_isRow idxI idxI_lt)
set_option linter.unusedVariables false

theorem ackFn_asks (b0 : Nat) (frm : Int) (w : World) (c0 : w.cell? ⟨b0, 1, none⟩ = some (.int .i64 frm)) (z0 : b0 < w.heap.size) : Asks 65 #[.pointer (some ⟨b0, 0, none⟩)] inVal (fun y => y == frm) w := by
  refine ⟨enters_of Tryd.func65 (by kernel_rfl) rfl, fun x w' hb => ?_⟩
  rw [← hb.cell (p := ⟨b0, 1, none⟩) z0] at c0
  have y0 := Nat.lt_of_lt_of_le z0 hb.size
  simp only [inVal]
  show Calls Tryd.prog 65 #[_, .pointer (some ⟨b0, 0, none⟩)] w' _
  go_enter Tryd.func65, Tryd.ntmps65
  go_wp2
  go_ret
  exact ⟨rfl, Below.refl _ _⟩
theorem ackFn_asksG (b0 : Nat) (frm : Int) (row : Option Nat) (w : World) (c0 : w.cell? ⟨b0, 1, none⟩ = some (.int .i64 frm)) (z0 : b0 < w.heap.size) (hr : some b0 ≠ row) : AsksG 65 #[.pointer (some ⟨b0, 0, none⟩)] inVal (fun y => y == frm) row w := by
  refine ⟨enters_of Tryd.func65 (by kernel_rfl) rfl, fun x w' hg => ?_⟩
  have c1 : w'.cell? ⟨b0, 1, none⟩ = some (.int .i64 frm) := hg.cell c0 hr
  exact (ackFn_asks b0 frm w' c1 (Nat.lt_of_lt_of_le z0 hg.size)).2 x w' (Below.refl _ _)
/-- A job's Asked in its own row, changed. -/
theorem Clerk.askRow {w X X' : World} {B q : Nat} {v : CkV} {ix : List (Nat × Nat)} {more : List Rw} (h : Clerk w X B q v ix more) {i g : Nat} (hi : i < v.jl) (eg : v.ja = some ⟨g, 0, none⟩) {aa : Option Addr} {al ac : Nat} {zs : List Int} (hg : X.grownBy X' (Value.slice (v.js.getD i default).aa (v.js.getD i default).al (v.js.getD i default).ac).ownBlock) (ho : X'.ownsRow B 3 1 (.slice aa al ac) al (flat inCell zs)) (hat : (Value.slice aa al ac).ownBlock = (Value.slice (v.js.getD i default).aa (v.js.getD i default).al (v.js.getD i default).ac).ownBlock ∨ (Value.slice aa al ac).ownBlock = some X.heap.size) :
    ∃ (k : Nat) (r : Rw), (∃ y, ix[i]? = some (y, k)) ∧ Clerk w (X'.setCell ⟨g, i * 6 + 3, none⟩ (.slice aa al ac)) B q { v with js := v.js.set i (askedJob (v.js.getD i default) aa al ac zs) } ix (more.set k r) := by
  have hl := h.lens.1
  have hi' : i < v.js.length := by omega
  obtain ⟨x, ex, e1, e2⟩ := h.jobs.at hi'
  have h1 := h.held.grow (i := 4 + x.2) (r' := siteRow aa al ac zs) (more_get e2) hg ho hat
  have hx2 : x.2 < more.length := (List.getElem?_eq_some_iff.1 e2).1
  have er : (v.rows ++ more).set (4 + x.2) (siteRow aa al ac zs) = v.rows ++ more.set x.2 (siteRow aa al ac zs) := by
    rw [List.set_append_right _ _ (by simp [CkV.rows])]
    congr 2
    simp [CkV.rows]
  rw [er] at h1
  have e0 : (v.rows ++ more.set x.2 (siteRow aa al ac zs))[0]? = some ⟨84, 6, .slice (some ⟨g, 0, none⟩) v.jl v.jc, v.jl, flat JbV.cells v.js⟩ := by rw [← eg]; rfl
  have h2 := h1.cell e0 (j := i * 6 + 3) (by omega) (.slice aa al ac)
  rw [← flat_set6 v.js i (askedJob (v.js.getD i default) aa al ac zs) 3 (.slice aa al ac) hi' (by decide) rfl] at h2
  refine ⟨x.2, siteRow aa al ac zs, ⟨x.1, ex⟩, ?_, ?_, by simpa using hl, h.lens.2.1, h.lens.2.2.1, h.lens.2.2.2⟩
  · have er2 : ({ v with js := v.js.set i (askedJob (v.js.getD i default) aa al ac zs) } : CkV).rows ++ more.set x.2 (siteRow aa al ac zs) = (v.rows ++ more.set x.2 (siteRow aa al ac zs)).set 0 ⟨84, 6, .slice (some ⟨g, 0, none⟩) v.jl v.jc, v.jl, flat JbV.cells (v.js.set i (askedJob (v.js.getD i default) aa al ac zs))⟩ := by rw [← eg]; rfl
    rw [er2]
    exact h2
  · obtain ⟨g1, g2, g3, g4⟩ := h.jobs
    have eo : v.js[i]? = some (v.js.getD i default) := by simp [List.getD, hi']
    refine ⟨by simpa using g1, fun k jj y ejj ey => ?_, g3, g4⟩
    rcases set_get eo ejj with ⟨rfl, rfl⟩ | ⟨hk, ejj2⟩
    · rw [ex] at ey
      obtain rfl := Option.some.inj ey
      refine ⟨?_, ?_⟩
      · rw [List.getElem?_set_ne (fun e => g4 _ _ ex e.symm)]; exact e1
      · rw [List.getElem?_set_self hx2]; rfl
    · have ap := g3 i k x y ex ey (fun e => hk e.symm)
      have := g2 k jj y ejj2 ey
      refine ⟨?_, ?_⟩
      · rw [List.getElem?_set_ne ap.2.2.1]; exact this.1
      · rw [List.getElem?_set_ne ap.2.2.2]; exact this.2
def Tn.acked (t : Tn) (i : Nat) (m : MV) : Tn :=
  if (t.js.getD i default).state = 3 then
    (if keep (fun y => y == m.frm) (t.js.getD i default).asked = [] then { t with rs := t.rs ++ [⟨4, m.site, m.num, 0, 0, 0, false, none, 0, 0, []⟩], js := kept (t.js.getD i default).n (t.js.set i { t.js.getD i default with asked := [] }) }
    else { t with js := t.js.set i { t.js.getD i default with asked := keep (fun y => y == m.frm) (t.js.getD i default).asked } })
  else t
set_option maxRecDepth 100000 in
set_option maxHeartbeats 8000000 in
theorem ack_done {w : World} {B q : Nat} {v : CkV} {ix : List (Nat × Nat)} {more : List Rw} (X : World) (h : Clerk w X B q v ix more) (hr : v.rs = []) {i g : Nat} (hi : i < v.jl) (eg : v.ja = some ⟨g, 0, none⟩) (m : MV) (hrl : v.rl ≤ 1000000) :
    Calls Tryd.prog 37 #[.pointer (some ⟨q, 0, none⟩), .pointer (some ⟨g, i * 6, none⟩), m.val] X fun e X' => DoneIs w X' B q v (v.tn.acked i m) e := by
  obtain ⟨kind, frm, dst, site, num, label, key, value, version, ask, yes, code⟩ := m
  simp only [MV.val]
  have hi' : i < v.js.length := by have := h.lens.1; omega
  obtain ⟨W, hW⟩ : ∃ W : World, W = X.alloc (.cells #[.int .i64 kind, .int .i64 frm, .int .i64 dst, .int .i64 site, .int .i64 num, .int .i64 label, .int .i64 key, .int .i64 value, .int .i64 version, .int .i64 ask, .bool yes, .int .i64 code] 58) := ⟨_, rfl⟩
  have bW : Below X.heap.size X W := by rw [hW]; exact (Below.refl _ _).alloc (Nat.le_refl _) _
  have zW : X.heap.size < W.heap.size := by rw [hW]; simp
  have hCW : Clerk w W B q v ix (more ++ [(⟨58, 12, .slice (some ⟨X.heap.size, 0, none⟩) 1 1, 1, [.int .i64 kind, .int .i64 frm, .int .i64 dst, .int .i64 site, .int .i64 num, .int .i64 label, .int .i64 key, .int .i64 value, .int .i64 version, .int .i64 ask, .bool yes, .int .i64 code]⟩ : Rw)]) := h.add bW (by rw [hW]; exact box_row X _ _ 12 rfl)
  have HC : Hid (Clerk w W B q v ix (more ++ [(⟨58, 12, .slice (some ⟨X.heap.size, 0, none⟩) 1 1, 1, [.int .i64 kind, .int .i64 frm, .int .i64 dst, .int .i64 site, .int .i64 num, .int .i64 label, .int .i64 key, .int .i64 value, .int .i64 version, .int .i64 ask, .bool yes, .int .i64 code]⟩ : Rw)])) := hCW
  have HBj : Hid (v.tn.js.getD i default = (v.js.getD i default).bare) := getD_bare _ _
  have HKM : Hid (∀ (k y : Nat), ix[i]? = some (y, k) → k < more.length) := fun k y e => (h.jobs.inn i (y, k) e).2
  have HRs0 : Hid (v.rs = []) := hr
  have HSt : Hid ((v.tn.js.getD i default).state = (v.js.getD i default).state) := by show _ = _; rw [HBj.out]; rfl
  obtain ⟨g2, eg2, -, zg, -, hcj, hfj⟩ := hCW.jobAt hi
  obtain rfl := ptrEq eg eg2
  clear eg2
  have hos := (hCW.tasksAt hi).2
  have hap : some X.heap.size ≠ (Value.slice (v.js.getD i default).aa (v.js.getD i default).al (v.js.getD i default).ac).ownBlock := fun e => by
    have := ((h.tasksAt hi).2.lt _ e.symm).2
    omega
  have hgap : some g ≠ (Value.slice (v.js.getD i default).aa (v.js.getD i default).al (v.js.getD i default).ac).ownBlock := by
    obtain ⟨x, _, _, e2⟩ := hCW.jobs.at hi'
    rcases hCW.held.own.ap 0 (4 + x.2) _ _ (show _ = some (⟨84, 6, .slice v.ja v.jl v.jc, v.jl, _⟩ : Rw) from rfl) (more_get e2) (by omega) with e | e
    · rw [eg] at e; simp [Value.ownBlock] at e
    · rw [eg] at e; exact e
  have mb : BoxN W X.heap.size 12 [.int .i64 kind, .int .i64 frm, .int .i64 dst, .int .i64 site, .int .i64 num, .int .i64 label, .int .i64 key, .int .i64 value, .int .i64 version, .int .i64 ask, .bool yes, .int .i64 code] := by rw [hW]; exact boxn_new X #[.int .i64 kind, .int .i64 frm, .int .i64 dst, .int .i64 site, .int .i64 num, .int .i64 label, .int .i64 key, .int .i64 value, .int .i64 version, .int .i64 ask, .bool yes, .int .i64 code] 58 12 rfl
  have b1 : W.cell? ⟨X.heap.size, 1, none⟩ = some (.int .i64 frm) := (mb.c 1 (by decide)).1
  have HDl : Hid (Calls Tryd.prog 64 #[.slice (v.js.getD i default).aa (v.js.getD i default).al (v.js.getD i default).ac, .func (.func 65) #[] #[.pointer (some ⟨X.heap.size, 0, none⟩)]] W fun e w' => e = .returned (.slice (v.js.getD i default).aa (keep (fun y => y == frm) (v.js.getD i default).asked).length (v.js.getD i default).ac) ∧ w'.ownsRow B 3 1 (.slice (v.js.getD i default).aa (keep (fun y => y == frm) (v.js.getD i default).asked).length (v.js.getD i default).ac) (keep (fun y => y == frm) (v.js.getD i default).asked).length (flat inCell (keep (fun y => y == frm) (v.js.getD i default).asked)) ∧ W.grownBy w' (Value.slice (v.js.getD i default).aa (v.js.getD i default).al (v.js.getD i default).ac).ownBlock) := deleteInt_any _ _ _ B _ _ _ _ W hos (ackFn_asksG X.heap.size frm _ W b1 zW hap)
  obtain ⟨J, eJ⟩ : ∃ J, J = v.js.getD i default := ⟨_, rfl⟩
  have HJ : Hid (J = v.js.getD i default) := eJ
  rw [← eJ] at hcj HDl hap hgap
  have HS : Hid (∀ (U : World) (more' : List Rw), Clerk w U B q v ix more' → ¬ J.state = 3 → DoneIs w U B q v (v.tn.acked i ⟨kind, frm, dst, site, num, label, key, value, version, ask, yes, code⟩) (.returned (.tuple #[]))) := fun U more' hU hst => by
    have e : v.tn.acked i ⟨kind, frm, dst, site, num, label, key, value, version, ask, yes, code⟩ = v.tn := by
      unfold Tn.acked
      rw [if_neg (by rw [HSt.out, ← HJ.out]; exact hst)]
    rw [e]
    exact ⟨rfl, v, ix, more', hU, by rw [HRs0.out]; exact recsIn_nil _, rfl, rfl, rfl, rfl, rfl, rfl, rfl, rfl⟩
  have HFs : Hid (∀ (U : World) (u : CkV) (iy : List (Nat × Nat)) (more' : List Rw), Clerk w U B q u iy more' → RecsIn u.rs more' → Hd v u → u.tn = v.tn.acked i ⟨kind, frm, dst, site, num, label, key, value, version, ask, yes, code⟩ → DoneIs w U B q v (v.tn.acked i ⟨kind, frm, dst, site, num, label, key, value, version, ask, yes, code⟩) (.returned (.tuple #[]))) := fun U u iy more' hU h2 h3 h4 => ⟨rfl, u, iy, more', hU, h2, h4, h3⟩
  have HAk : Hid (J.state = 3 → v.tn.acked i ⟨kind, frm, dst, site, num, label, key, value, version, ask, yes, code⟩ = if keep (fun y => y == frm) J.asked = [] then { v.tn with rs := v.tn.rs ++ [⟨4, site, num, 0, 0, 0, false, none, 0, 0, []⟩], js := kept J.n (v.tn.js.set i { J.bare with asked := [] }) } else { v.tn with js := v.tn.js.set i { J.bare with asked := keep (fun y => y == frm) J.asked } }) := fun hst => by
    unfold Tn.acked
    rw [if_pos (by rw [HSt.out, ← HJ.out]; exact hst), HBj.out, ← HJ.out]
    rfl
  obtain ⟨K, eK⟩ : ∃ K, K = keep (fun y => y == frm) J.asked := ⟨_, rfl⟩
  rw [← eK] at HDl HAk
  have HRow : Hid (∀ (w' : World), w'.ownsRow B 3 1 (.slice J.aa K.length J.ac) K.length (flat inCell K) → W.grownBy w' (Value.slice J.aa J.al J.ac).ownBlock → ∃ (k : Nat) (r : Rw), (∃ y, ix[i]? = some (y, k)) ∧ Clerk w (w'.setCell ⟨g, i * 6 + 3, none⟩ (.slice J.aa K.length J.ac)) B q { v with js := v.js.set i (askedJob J J.aa K.length J.ac K) } ix ((more ++ [(⟨58, 12, .slice (some ⟨X.heap.size, 0, none⟩) 1 1, 1, [.int .i64 kind, .int .i64 frm, .int .i64 dst, .int .i64 site, .int .i64 num, .int .i64 label, .int .i64 key, .int .i64 value, .int .i64 version, .int .i64 ask, .bool yes, .int .i64 code]⟩ : Rw)]).set k r)) := fun w' h1 h2 => by
    have := HC.out.askRow (i := i) (g := g) hi eg (X' := w') (aa := J.aa) (al := K.length) (ac := J.ac) (zs := K) (by rw [← HJ.out]; exact h2) h1 (Or.inl (by rw [← HJ.out]; exact own_blk _ _ _ _ _))
    rw [← HJ.out] at this
    exact this
  clear eJ eK h hr hCW hos
  obtain ⟨jn, st, ta, tl, tc, aa, al, ac, asks, age, tasks, asked⟩ := J
  have c0 := hcj 0 (by decide)
  have c1 := hcj 1 (by decide)
  have c3 := hcj 3 (by decide)
  have f3 := hfj 3 (by decide)
  simp only [JbV.cells, List.getElem?_cons_zero, List.getElem?_cons_succ, Nat.add_zero] at c0 c1 c3
  simp only [] at HDl HRow HAk HS
  clear hcj hfj
  by_cases hst : st = 3
  · subst hst
    have HAk2 := HAk.out rfl
    have HAk3 : Hid (_ = _) := HAk2
    clear HAk HAk2 HS
    obtain ⟨N, eN⟩ : ∃ N, N = K.length := ⟨_, rfl⟩
    have HN : Hid (N = K.length) := eN
    rw [← eN] at HDl HRow
    clear eN
    go_enter Tryd.func37, Tryd.ntmps37
    go_upto_region 1 with (fail)
    rw [← hW]
    clear hW
    go_upto_region 2 with (fail)
    go_upto_region 3 with (go_at_call 64; refine HDl.out.mono ?_; rintro e U ⟨rfl, ho, hgr⟩; obtain ⟨k7, r7, ⟨y7, hy7⟩, hC7⟩ := HRow.out U ho hgr; have u3 := hgr.cell c3 hgap; have uf3 := (World.frozen?_of_block (a := ⟨g, i * 6 + 3, none⟩) (hgr.block g zg hgap)).trans f3; have zgU := Nat.lt_of_lt_of_le zg hgr.size)
    obtain ⟨Y, eY⟩ : ∃ Y, Y = U.setCell ⟨g, i * 6 + 3, none⟩ (.slice aa N ac) := ⟨_, rfl⟩
    rw [← eY] at hC7 ⊢
    obtain ⟨v7, ev7⟩ : ∃ v7 : CkV, v7 = { v with js := v.js.set i (askedJob ⟨jn, 3, ta, tl, tc, aa, al, ac, asks, age, tasks, asked⟩ aa N ac K) } := ⟨_, rfl⟩
    rw [← ev7] at hC7
    have HV7 : Hid (v7 = { v with js := v.js.set i (askedJob ⟨jn, 3, ta, tl, tc, aa, al, ac, asks, age, tasks, asked⟩ aa N ac K) }) := ev7
    have hkm7 := HKM.out k7 y7 hy7
    have em : ((more ++ [(⟨58, 12, .slice (some ⟨X.heap.size, 0, none⟩) 1 1, 1, [.int .i64 kind, .int .i64 frm, .int .i64 dst, .int .i64 site, .int .i64 num, .int .i64 label, .int .i64 key, .int .i64 value, .int .i64 version, .int .i64 ask, .bool yes, .int .i64 code]⟩ : Rw)]).set k7 r7)[more.length]? = some (⟨58, 12, .slice (some ⟨X.heap.size, 0, none⟩) 1 1, 1, [.int .i64 kind, .int .i64 frm, .int .i64 dst, .int .i64 site, .int .i64 num, .int .i64 label, .int .i64 key, .int .i64 value, .int .i64 version, .int .i64 ask, .bool yes, .int .i64 code]⟩ : Rw) := by
      rw [List.getElem?_set_ne (by omega)]
      simp
    have mb7 : BoxN Y X.heap.size 12 [.int .i64 kind, .int .i64 frm, .int .i64 dst, .int .i64 site, .int .i64 num, .int .i64 label, .int .i64 key, .int .i64 value, .int .i64 version, .int .i64 ask, .bool yes, .int .i64 code] := row_box (rowAt (v := v7) (more := more) hC7 em) rfl (by decide)
    have hi7 : i < v7.jl := by rw [ev7]; exact hi
    have eg7 : v7.ja = some ⟨g, 0, none⟩ := by rw [ev7]; exact eg
    obtain ⟨g2, eg2, -, zgY, -, hcY, -⟩ := hC7.jobAt hi7
    obtain rfl := ptrEq eg7 eg2
    have e7 : v7.js.getD i default = askedJob ⟨jn, 3, ta, tl, tc, aa, al, ac, asks, age, tasks, asked⟩ aa N ac K := by rw [ev7]; exact set_getD _ _ _ hi'
    rw [e7] at hcY
    have y0 := hcY 0 (by decide)
    have y3 := hcY 3 (by decide)
    simp only [JbV.cells, askedJob, List.getElem?_cons_zero, List.getElem?_cons_succ, Nat.add_zero] at y0 y3
    have HC7 : Hid (Clerk w Y B q v7 ix ((more ++ [(⟨58, 12, .slice (some ⟨X.heap.size, 0, none⟩) 1 1, 1, [.int .i64 kind, .int .i64 frm, .int .i64 dst, .int .i64 site, .int .i64 num, .int .i64 label, .int .i64 key, .int .i64 value, .int .i64 version, .int .i64 ask, .bool yes, .int .i64 code]⟩ : Rw)]).set k7 r7)) := hC7
    clear ev7 hC7 eg2 eg7 hcY e7 eY u3 uf3 zgU ho hgr c0 c1 c3 f3
    by_cases hN : N = 0
    · have HKn : Hid (K = []) := List.length_eq_zero_iff.1 (by rw [← HN.out]; exact hN)
      have hN' : ((N : Int) == 0) = true := by simpa using hN
      have m3 : Y.cell? ⟨X.heap.size, 3, none⟩ = some (.int .i64 site) := (mb7.c 3 (by decide)).1
      have m4 : Y.cell? ⟨X.heap.size, 4, none⟩ = some (.int .i64 num) := (mb7.c 4 (by decide)).1
      have zm := mb7.lt
      have HWr : Hid (Calls Tryd.prog 44 #[.pointer (some ⟨q, 0, none⟩), .agg #[.int .i64 4, .int .i64 site, .int .i64 num, .int .i64 0, .int .i64 0, .int .i64 0, .bool false, .slice none 0 0]] Y fun e X' => e = .returned (.tuple #[]) ∧ ∃ a6 c6, Clerk w X' B q { v7 with ra := a6, rl := v7.rl + 1, rc := c6, rs := v7.rs ++ [⟨4, site, num, 0, 0, 0, false, none, 0, 0, []⟩] } ix ((more ++ [(⟨58, 12, .slice (some ⟨X.heap.size, 0, none⟩) 1 1, 1, [.int .i64 kind, .int .i64 frm, .int .i64 dst, .int .i64 site, .int .i64 num, .int .i64 label, .int .i64 key, .int .i64 value, .int .i64 version, .int .i64 ask, .bool yes, .int .i64 code]⟩ : Rw)]).set k7 r7)) := write_any Y HC7.out ⟨4, site, num, 0, 0, 0, false, none, 0, 0, []⟩ (by rw [HV7.out]; exact fitR hrl)
      clear hN mb7
      go_upto_region 5 with (go_at_call 44; refine HWr.out.mono ?_; rintro e Y8 ⟨rfl, a6, c6, hC8⟩)
      obtain ⟨g2, eg2, -, zgY8, -, hcY8, -⟩ := hC8.jobAt (i := i) (by exact hi7)
      obtain rfl := ptrEq (show v7.ja = some ⟨g, 0, none⟩ by rw [HV7.out]; exact eg) eg2
      have x0 : Y8.cell? ⟨g, i * 6, none⟩ = some (.int .i64 jn) := by
        have := hcY8 0 (by decide)
        have e7 : v7.js.getD i default = askedJob ⟨jn, 3, ta, tl, tc, aa, al, ac, asks, age, tasks, asked⟩ aa N ac K := by rw [HV7.out]; exact set_getD _ _ _ hi'
        simp only [e7] at this
        simpa [JbV.cells, askedJob] using this
      have HDp : Hid (Calls Tryd.prog 57 #[.pointer (some ⟨q, 0, none⟩), .int .i64 jn] Y8 fun e X' => e = .returned (.tuple #[]) ∧ DoneIs w X' B q v (v.tn.acked i ⟨kind, frm, dst, site, num, label, key, value, version, ask, yes, code⟩) (.returned (.tuple #[]))) := by
        refine (drop_any Y8 hC8 jn).mono ?_
        rintro e u ⟨rfl, ix', h9⟩
        refine ⟨rfl, HFs.out _ _ _ _ h9 ?_ ?_ ?_⟩
        · show RecsIn (v7.rs ++ [_]) _
          rw [HV7.out]
          show RecsIn (v.rs ++ [_]) _
          rw [HRs0.out]
          intro r hx
          simp at hx
          subst hx
          exact Or.inl ⟨rfl, rfl, rfl, rfl⟩
        · rw [HV7.out]; exact ⟨rfl, rfl, rfl, rfl, rfl, rfl, rfl⟩
        · rw [HAk3.out, if_pos HKn.out, HV7.out]
          unfold CkV.tn
          simp only [kept_bare, set_bare, List.map_append]
          rw [HKn.out]
          rfl
      clear hC8 hcY8 eg2 y0 y3
      go_wp2_with (go_at_call 57; refine HDp.out.mono ?_; rintro e w9 ⟨rfl, h9⟩)
      exact bodyPost_end (v := .tuple #[]) (by simp [results, Tryd.results37, go_sem]) rfl h9
    · have HKn : Hid (¬ K = []) := fun e => hN (by rw [HN.out, e]; rfl)
      have hN' : ((N : Int) == 0) = false := by simpa using hN
      have hF := HFs.out Y v7 ix _ HC7.out (by rw [HV7.out]; show RecsIn v.rs _; rw [HRs0.out]; exact recsIn_nil _) (by rw [HV7.out]; exact ⟨rfl, rfl, rfl, rfl, rfl, rfl, rfl⟩) (by
        rw [HAk3.out, if_neg HKn.out, HV7.out]
        unfold CkV.tn
        simp only [set_bare]
        rfl)
      clear hN HC7 mb7
      go_wp2
      exact bodyPost_end (v := .tuple #[]) (by simp [results, Tryd.results37, go_sem]) rfl hF
  · have hst' : (st == 3) = false := by simpa using hst
    have hF := HS.out W _ HC.out hst
    clear hst HAk
    go_enter Tryd.func37, Tryd.ntmps37
    go_upto_region 1 with (fail)
    rw [← hW]
    clear hW
    go_wp2
    exact bodyPost_ret (v := .tuple #[]) (by simp [results, Tryd.results37, go_sem]) rfl hF
end Go.Proofs.YtdjnaahkcnklhaaDoor.Co
/- The clerk's doubts. -/
namespace Go.Proofs.YtdjnaahkcnklhaaDoor.Co
open Go.ChangeShapes Go.WideShapes Go.ChangeAt Go.RowKit
open Go.Proofs.YtdjnaahkcnklhaaDoor.St (BoxN boxn_new own_below grown_setCell IsRow Elem flat flat_append own_isRow idxI idxI_lt)
set_option linter.unusedVariables false

def Tn.told (t : Tn) (C : Cx) (n : Int) (yes : Bool) (site : Int) : Tn := { t with ms := t.ms ++ [decM C.me n yes site] }
def Tn.doubted (t : Tn) (C : Cx) (i : Nat) (m : MV) : Tn := if (decide ((t.js.getD i default).state = 3) && (t.js.getD i default).asked.any fun y => m.frm == y) = true then t.told C (t.js.getD i default).n true m.frm else t
theorem send_dec {w : World} {B q : Nat} {v : CkV} {ix : List (Nat × Nat)} {more : List Rw} (X : World) (h : Clerk w X B q v ix more) (hr : RecsIn v.rs more) (ls : List (Int × Int)) (n : Int) (yes : Bool) (site : Int) (hm : v.ml ≤ 1000000) :
    Calls Tryd.prog 51 #[.pointer (some ⟨q, 0, none⟩), .int .i64 n, .int .i64 site, .agg #[.int .i64 4, .int .i64 0, .int .i64 0, .int .i64 0, .int .i64 0, .int .i64 0, .int .i64 0, .int .i64 0, .int .i64 0, .int .i64 0, .bool yes, .int .i64 0]] X fun e X' => e = .returned (.tuple #[]) ∧ DoneIs w X' B q v (v.tn.told (v.cx ls) n yes site) (.returned (.tuple #[])) := by
  refine (send_any X h n site ⟨4, 0, 0, 0, 0, 0, 0, 0, 0, 0, yes, 0⟩ (fitM1 hm)).mono ?_
  rintro e u ⟨rfl, a5, c5, h5⟩
  exact ⟨rfl, rfl, _, ix, more, h5, hr, rfl, rfl, rfl, rfl, rfl, rfl, rfl, rfl⟩
set_option maxRecDepth 100000 in
set_option maxHeartbeats 8000000 in
theorem doubtsNone_done {w : World} {B q : Nat} {v : CkV} {ix : List (Nat × Nat)} {more : List Rw} (X : World) (h : Clerk w X B q v ix more) (hr : RecsIn v.rs more) (ls : List (Int × Int)) (m : MV) (hm : v.ml ≤ 1000000) :
    Calls Tryd.prog 34 #[.pointer (some ⟨q, 0, none⟩), .pointer none, m.val] X fun e X' => DoneIs w X' B q v (v.tn.told (v.cx ls) m.num false m.frm) e := by
  obtain ⟨kind, frm, dst, site, num, label, key, value, version, ask, yes, code⟩ := m
  simp only [MV.val]
  obtain ⟨W, hW⟩ : ∃ W : World, W = X.alloc (.cells #[.int .i64 kind, .int .i64 frm, .int .i64 dst, .int .i64 site, .int .i64 num, .int .i64 label, .int .i64 key, .int .i64 value, .int .i64 version, .int .i64 ask, .bool yes, .int .i64 code] 58) := ⟨_, rfl⟩
  have bW : Below X.heap.size X W := by rw [hW]; exact (Below.refl _ _).alloc (Nat.le_refl _) _
  have mb : BoxN W X.heap.size 12 [.int .i64 kind, .int .i64 frm, .int .i64 dst, .int .i64 site, .int .i64 num, .int .i64 label, .int .i64 key, .int .i64 value, .int .i64 version, .int .i64 ask, .bool yes, .int .i64 code] := by rw [hW]; exact boxn_new X #[.int .i64 kind, .int .i64 frm, .int .i64 dst, .int .i64 site, .int .i64 num, .int .i64 label, .int .i64 key, .int .i64 value, .int .i64 version, .int .i64 ask, .bool yes, .int .i64 code] 58 12 rfl
  have b1 : W.cell? ⟨X.heap.size, 1, none⟩ = some (.int .i64 frm) := (mb.c 1 (by decide)).1
  have b4 : W.cell? ⟨X.heap.size, 4, none⟩ = some (.int .i64 num) := (mb.c 4 (by decide)).1
  have zm := mb.lt
  have HS := send_dec W (h.below bW) hr ls num false frm hm
  have HS2 : Hid (Calls Tryd.prog 51 #[.pointer (some ⟨q, 0, none⟩), .int .i64 num, .int .i64 frm, .agg #[.int .i64 4, .int .i64 0, .int .i64 0, .int .i64 0, .int .i64 0, .int .i64 0, .int .i64 0, .int .i64 0, .int .i64 0, .int .i64 0, .bool false, .int .i64 0]] W fun e X' => e = .returned (.tuple #[]) ∧ DoneIs w X' B q v (v.tn.told (v.cx ls) num false frm) (.returned (.tuple #[]))) := HS
  clear HS mb h hr
  go_enter Tryd.func34, Tryd.ntmps34
  go_upto_region 1 with (fail)
  rw [← hW]
  clear hW
  go_wp2_with (go_at_call 51; refine HS2.out.mono ?_; rintro e w9 ⟨rfl, h9⟩)
  exact bodyPost_ret (v := .tuple #[]) (by simp [results, Tryd.results34, go_sem]) rfl h9
set_option maxRecDepth 100000 in
set_option maxHeartbeats 8000000 in
theorem doubts_done {w : World} {B q : Nat} {v : CkV} {ix : List (Nat × Nat)} {more : List Rw} (X : World) (h : Clerk w X B q v ix more) (hr : RecsIn v.rs more) (ls : List (Int × Int)) {i g : Nat} (hi : i < v.jl) (eg : v.ja = some ⟨g, 0, none⟩) (m : MV) (hm : v.ml ≤ 1000000) :
    Calls Tryd.prog 34 #[.pointer (some ⟨q, 0, none⟩), .pointer (some ⟨g, i * 6, none⟩), m.val] X fun e X' => DoneIs w X' B q v (v.tn.doubted (v.cx ls) i m) e := by
  obtain ⟨kind, frm, dst, site, num, label, key, value, version, ask, yes, code⟩ := m
  simp only [MV.val]
  obtain ⟨W, hW⟩ : ∃ W : World, W = X.alloc (.cells #[.int .i64 kind, .int .i64 frm, .int .i64 dst, .int .i64 site, .int .i64 num, .int .i64 label, .int .i64 key, .int .i64 value, .int .i64 version, .int .i64 ask, .bool yes, .int .i64 code] 58) := ⟨_, rfl⟩
  have bW : Below X.heap.size X W := by rw [hW]; exact (Below.refl _ _).alloc (Nat.le_refl _) _
  have mb : BoxN W X.heap.size 12 [.int .i64 kind, .int .i64 frm, .int .i64 dst, .int .i64 site, .int .i64 num, .int .i64 label, .int .i64 key, .int .i64 value, .int .i64 version, .int .i64 ask, .bool yes, .int .i64 code] := by rw [hW]; exact boxn_new X #[.int .i64 kind, .int .i64 frm, .int .i64 dst, .int .i64 site, .int .i64 num, .int .i64 label, .int .i64 key, .int .i64 value, .int .i64 version, .int .i64 ask, .bool yes, .int .i64 code] 58 12 rfl
  have hCW := h.below bW
  have HC : Hid (Clerk w W B q v ix more) := hCW
  have HBj : Hid (v.tn.js.getD i default = (v.js.getD i default).bare) := getD_bare _ _
  obtain ⟨g2, eg2, -, zg, -, hcj, -⟩ := hCW.jobAt hi
  obtain rfl := ptrEq eg eg2
  clear eg2
  have hos := hCW.isSites hi
  have HCt : Hid (∀ U, Below W.heap.size W U → Calls Tryd.prog 59 #[.slice (v.js.getD i default).aa (v.js.getD i default).al (v.js.getD i default).ac, .int .i64 frm] U fun e w' => e = .returned (.bool ((v.js.getD i default).asked.any fun y => frm == y)) ∧ Below U.heap.size U w') := fun U hU => contInt_any frm _ _ _ _ U (hos.below hU)
  obtain ⟨J, eJ⟩ : ∃ J, J = v.js.getD i default := ⟨_, rfl⟩
  rw [← eJ] at HCt hcj HBj
  obtain ⟨jn, st, ta, tl, tc, aa, al, ac, asks, age, tasks, asked⟩ := J
  simp only [] at HCt
  obtain ⟨A, eA⟩ : ∃ A, A = asked.any fun y => frm == y := ⟨_, rfl⟩
  rw [← eA] at HCt
  have HDb : Hid (v.tn.doubted (v.cx ls) i ⟨kind, frm, dst, site, num, label, key, value, version, ask, yes, code⟩ = if (decide (st = 3) && A) = true then v.tn.told (v.cx ls) jn true frm else v.tn) := by
    show _ = _
    unfold Tn.doubted
    rw [HBj.out, eA]
    rfl
  have c0 := hcj 0 (by decide)
  have c1 := hcj 1 (by decide)
  have c3 := hcj 3 (by decide)
  simp only [JbV.cells, List.getElem?_cons_zero, List.getElem?_cons_succ, Nat.add_zero] at c0 c1 c3
  have b1 : W.cell? ⟨X.heap.size, 1, none⟩ = some (.int .i64 frm) := (mb.c 1 (by decide)).1
  have zm := mb.lt
  have HSame : Hid (∀ U, Below W.heap.size W U → v.tn.doubted (v.cx ls) i ⟨kind, frm, dst, site, num, label, key, value, version, ask, yes, code⟩ = v.tn → DoneIs w U B q v (v.tn.doubted (v.cx ls) i ⟨kind, frm, dst, site, num, label, key, value, version, ask, yes, code⟩) (.returned (.tuple #[]))) := fun U hU e => ⟨rfl, v, ix, more, HC.out.below hU, hr, e.symm, rfl, rfl, rfl, rfl, rfl, rfl, rfl⟩
  have KC : Hid (∀ U, Below W.heap.size W U → U.cell? ⟨g, i * 6, none⟩ = some (.int .i64 jn) ∧ U.cell? ⟨X.heap.size, 1, none⟩ = some (.int .i64 frm)) := fun U hU => ⟨(hU.cell (p := ⟨g, i * 6, none⟩) zg).trans c0, (hU.cell (p := ⟨X.heap.size, 1, none⟩) zm).trans b1⟩
  have HS : Hid (∀ U, Below W.heap.size W U → Calls Tryd.prog 51 #[.pointer (some ⟨q, 0, none⟩), .int .i64 jn, .int .i64 frm, .agg #[.int .i64 4, .int .i64 0, .int .i64 0, .int .i64 0, .int .i64 0, .int .i64 0, .int .i64 0, .int .i64 0, .int .i64 0, .int .i64 0, .bool true, .int .i64 0]] U fun e X' => e = .returned (.tuple #[]) ∧ DoneIs w X' B q v (v.tn.told (v.cx ls) jn true frm) (.returned (.tuple #[]))) := fun U hU => send_dec U (HC.out.below hU) hr ls jn true frm hm
  clear eJ eA hCW hos h mb hcj
  by_cases hst : st = 3
  · subst hst
    cases A with
    | false =>
      have HA : Hid (v.tn.doubted (v.cx ls) i ⟨kind, frm, dst, site, num, label, key, value, version, ask, yes, code⟩ = v.tn) := by show _ = _; rw [HDb.out]; rfl
      go_enter Tryd.func34, Tryd.ntmps34
      go_upto_region 1 with (fail)
      rw [← hW]
      clear hW
      go_upto_region 3 with (fail)
      have qc1 := fun d os => cell_regrown c1 d os
      have qc3 := fun d os => cell_regrown c3 d os
      have qb1 := fun d os => cell_regrown b1 d os
      refine wp_region_quiet_below (by kernel_rfl) (by kernel_rfl) ?_
      repeat (go_big_quiet_step ((exact Calls.regrown_of (HCt.out _ (below_regrown _ _ _)))))
      refine wpQuiet_nil ?_
      intro _ hw'
      obtain ⟨⟨dq, osq⟩, hw''⟩ := hw'
      subst hw''
      have bQ := below_regrown W dq osq
      obtain ⟨Z, eZ⟩ : ∃ Z, Z = Go.Sort.grow (Go.redrawn W dq) osq := ⟨_, rfl⟩
      rw [← eZ] at bQ ⊢
      clear eZ qc1 qc3 qb1 c1 c3 b1
      have hF := HSame.out Z bQ HA.out
      go_wp2
      exact bodyPost_end (v := .tuple #[]) (by simp [results, Tryd.results34, go_sem]) rfl hF
    | true =>
      have HA : Hid (v.tn.doubted (v.cx ls) i ⟨kind, frm, dst, site, num, label, key, value, version, ask, yes, code⟩ = v.tn.told (v.cx ls) jn true frm) := by show _ = _; rw [HDb.out]; rfl
      go_enter Tryd.func34, Tryd.ntmps34
      go_upto_region 1 with (fail)
      rw [← hW]
      clear hW
      go_upto_region 3 with (fail)
      have qc1 := fun d os => cell_regrown c1 d os
      have qc3 := fun d os => cell_regrown c3 d os
      have qb1 := fun d os => cell_regrown b1 d os
      refine wp_region_quiet_below (by kernel_rfl) (by kernel_rfl) ?_
      repeat (go_big_quiet_step ((exact Calls.regrown_of (HCt.out _ (below_regrown _ _ _)))))
      refine wpQuiet_nil ?_
      intro _ hw'
      obtain ⟨⟨dq, osq⟩, hw''⟩ := hw'
      subst hw''
      have bQ := below_regrown W dq osq
      obtain ⟨Z, eZ⟩ : ∃ Z, Z = Go.Sort.grow (Go.redrawn W dq) osq := ⟨_, rfl⟩
      rw [← eZ] at bQ ⊢
      clear eZ qc1 qc3 qb1 c1 c3 b1
      obtain ⟨D, eD⟩ : ∃ D : World → Prop, D = fun u => DoneIs w u B q v (v.tn.told (v.cx ls) jn true frm) (.returned (.tuple #[])) := ⟨_, rfl⟩
      have HD : Hid (∀ u, D u → DoneIs w u B q v (v.tn.told (v.cx ls) jn true frm) (.returned (.tuple #[]))) := fun u hu => by rw [eD] at hu; exact hu
      have HS2 : Hid (∀ U, Below Z.heap.size Z U → Calls Tryd.prog 51 #[.pointer (some ⟨q, 0, none⟩), .int .i64 jn, .int .i64 frm, .agg #[.int .i64 4, .int .i64 0, .int .i64 0, .int .i64 0, .int .i64 0, .int .i64 0, .int .i64 0, .int .i64 0, .int .i64 0, .int .i64 0, .bool true, .int .i64 0]] U fun e X' => e = .returned (.tuple #[]) ∧ D X') := fun U hU => by
        refine (HS.out U (nT bQ hU)).mono ?_
        rintro e u ⟨rfl, hu⟩
        exact ⟨rfl, by rw [eD]; exact hu⟩
      have KC2 : Hid (∀ U, Below Z.heap.size Z U → U.cell? ⟨g, i * 6, none⟩ = some (.int .i64 jn) ∧ U.cell? ⟨X.heap.size, 1, none⟩ = some (.int .i64 frm)) := fun U hU => KC.out U (nT bQ hU)
      clear eD HS KC
      go_upto_region 4 with (fail)
      refine wp_region_inv (by kernel_rfl) [30, 31, 32, 33, 34, 35, 36, 37, 38] (fun L T u => True ∧ (L 0 = true → T 30 = .pointer (some ⟨q, 0, none⟩)) ∧ (L 1 = true → T 31 = .pointer (some ⟨g, i * 6, none⟩)) ∧ (L 2 = true → T 32 = .pointer (some ⟨g, i * 6, none⟩)) ∧ (L 3 = true → T 33 = .pointer (some ⟨g, i * 6, none⟩)) ∧ (L 4 = true → T 34 = .int .i64 jn) ∧ (L 5 = true → T 35 = .pointer (some ⟨X.heap.size, 1, none⟩)) ∧ (L 6 = true → T 36 = .int .i64 frm) ∧ (L 7 = true → T 37 = .agg #[.int .i64 4, .int .i64 0, .int .i64 0, .int .i64 0, .int .i64 0, .int .i64 0, .int .i64 0, .int .i64 0, .int .i64 0, .int .i64 0, .bool true, .int .i64 0]) ∧ (L 8 = false → Below Z.heap.size Z u) ∧ (L 8 = true → D u)) (by decide) (by kernel_rfl) (by kernel_rfl) ?_ ?_ ?_
      · exact ⟨trivial, nofun, nofun, nofun, nofun, nofun, nofun, nofun, nofun, fun _ => (Below.refl _ _).drew, nofun⟩
      · refine ⟨?_, ?_, ?_, ?_, ?_, ?_, ?_, ?_, ?_, trivial⟩
        · rintro L T u hd hk hcl ⟨hb, p0, p1, p2, p3, p4, p5, p6, p7, c1, c2⟩ K hK
          simp only [fr, Act.put, List.setIfInBounds_toArray, List.set_cons_zero, List.set_cons_succ, updO] at hK ⊢
          simp [Region.binds] at hd
          rw [if_pos (by rfl)]
          simp only [Oper.wpv]
          go_simp
          exact hK _ _ ⟨hb, fun _ => rfl, p1, p2, p3, p4, p5, p6, p7, c1, c2⟩
        · rintro L T u hd hk hcl ⟨hb, p0, p1, p2, p3, p4, p5, p6, p7, c1, c2⟩ K hK
          simp only [fr, Act.put, List.setIfInBounds_toArray, List.set_cons_zero, List.set_cons_succ, updO] at hK ⊢
          simp [Region.binds] at hd
          rw [if_pos (by rfl)]
          simp only [Oper.wpv]
          go_simp
          exact hK _ _ ⟨hb, p0, fun _ => rfl, p2, p3, p4, p5, p6, p7, c1, c2⟩
        · rintro L T u hd hk hcl ⟨hb, p0, p1, p2, p3, p4, p5, p6, p7, c1, c2⟩ K hK
          simp only [fr, Act.put, List.setIfInBounds_toArray, List.set_cons_zero, List.set_cons_succ, updO] at hK ⊢
          simp [Region.binds] at hd
          have g1 := p1 (by simp [hd])
          rw [if_pos (by rfl)]
          simp only [Oper.wpv]
          go_simp
          exact hK _ _ ⟨hb, p0, p1, fun _ => rfl, p3, p4, p5, p6, p7, c1, c2⟩
        · rintro L T u hd hk hcl ⟨hb, p0, p1, p2, p3, p4, p5, p6, p7, c1, c2⟩ K hK
          simp only [fr, Act.put, List.setIfInBounds_toArray, List.set_cons_zero, List.set_cons_succ, updO] at hK ⊢
          simp [Region.binds] at hd
          have g2 := p2 (by simp [hd])
          rw [if_pos (by rfl)]
          simp only [Oper.wpv]
          go_simp
          exact hK _ _ ⟨hb, p0, p1, p2, fun _ => rfl, p4, p5, p6, p7, c1, c2⟩
        · rintro L T u hd hk hcl ⟨hb, p0, p1, p2, p3, p4, p5, p6, p7, c1, c2⟩ K hK
          simp only [fr, Act.put, List.setIfInBounds_toArray, List.set_cons_zero, List.set_cons_succ, updO] at hK ⊢
          simp [Region.binds] at hd
          have g3 := p3 (by simp [hd])
          have k8 := hcl 8 _ rfl
          simp [Region.binds] at k8
          have hE : L 8 = false := by cases h : L 8 with | false => rfl | true => have a8 := k8 h; simp [hk] at a8
          obtain ⟨xn, xf⟩ := KC2.out u (c1 hE)
          rw [if_pos (by rfl)]
          simp only [Oper.wpv]
          go_simp
          exact hK _ _ ⟨hb, p0, p1, p2, p3, fun _ => rfl, p5, p6, p7, c1, c2⟩
        · rintro L T u hd hk hcl ⟨hb, p0, p1, p2, p3, p4, p5, p6, p7, c1, c2⟩ K hK
          simp only [fr, Act.put, List.setIfInBounds_toArray, List.set_cons_zero, List.set_cons_succ, updO] at hK ⊢
          simp [Region.binds] at hd
          rw [if_pos (by rfl)]
          simp only [Oper.wpv]
          go_simp
          exact hK _ _ ⟨hb, p0, p1, p2, p3, p4, fun _ => rfl, p6, p7, c1, c2⟩
        · rintro L T u hd hk hcl ⟨hb, p0, p1, p2, p3, p4, p5, p6, p7, c1, c2⟩ K hK
          simp only [fr, Act.put, List.setIfInBounds_toArray, List.set_cons_zero, List.set_cons_succ, updO] at hK ⊢
          simp [Region.binds] at hd
          have g5 := p5 (by simp [hd])
          have k8 := hcl 8 _ rfl
          simp [Region.binds] at k8
          have hE : L 8 = false := by cases h : L 8 with | false => rfl | true => have a8 := k8 h; simp [hk] at a8
          obtain ⟨xn, xf⟩ := KC2.out u (c1 hE)
          rw [if_pos (by rfl)]
          simp only [Oper.wpv]
          go_simp
          exact hK _ _ ⟨hb, p0, p1, p2, p3, p4, p5, fun _ => rfl, p7, c1, c2⟩
        · rintro L T u hd hk hcl ⟨hb, p0, p1, p2, p3, p4, p5, p6, p7, c1, c2⟩ K hK
          simp only [fr, Act.put, List.setIfInBounds_toArray, List.set_cons_zero, List.set_cons_succ, updO] at hK ⊢
          simp [Region.binds] at hd
          rw [if_pos (by rfl)]
          simp only [Oper.wpv]
          go_simp
          exact hK _ _ ⟨hb, p0, p1, p2, p3, p4, p5, p6, fun _ => rfl, c1, c2⟩
        · rintro L T u hd hk hcl ⟨hb, p0, p1, p2, p3, p4, p5, p6, p7, c1, c2⟩ K hK
          simp only [fr, Act.put, List.setIfInBounds_toArray, List.set_cons_zero, List.set_cons_succ, updO] at hK ⊢
          simp [Region.binds] at hd
          have g0 := p0 (by simp [hd])
          have g4 := p4 (by simp [hd])
          have g6 := p6 (by simp [hd])
          have g7 := p7 (by simp [hd])
          have hE : L 8 = false := hk
          rw [if_pos (by rfl)]
          simp only [Oper.wpv]
          go_simp
          refine (HS2.out _ (c1 hE)).mono ?_
          rintro e u1 ⟨rfl, hg⟩
          exact hK _ _ ⟨hb, p0, p1, p2, p3, p4, p5, p6, p7, fun h => Bool.noConfusion (show true = false from h), fun _ => hg⟩
      · rintro L T u hl ⟨hb, p0, p1, p2, p3, p4, p5, p6, p7, c1, c2⟩
        simp only [fr, Act.put, List.setIfInBounds_toArray, List.set_cons_zero, List.set_cons_succ]
        have hH := HD.out _ (c2 (hl 8 (by decide)))
        clear p0 p1 p2 p3 p4 p5 p6 p7 c1 c2
        rw [← HA.out] at hH
        exact bodyPost_end (v := .tuple #[]) (by simp [results, Tryd.results34, go_sem]) rfl hH
  · have hst' : (st == 3) = false := by simpa using hst
    have HA : Hid (v.tn.doubted (v.cx ls) i ⟨kind, frm, dst, site, num, label, key, value, version, ask, yes, code⟩ = v.tn) := by show _ = _; rw [HDb.out]; simp [hst]
    clear hst
    go_enter Tryd.func34, Tryd.ntmps34
    go_upto_region 1 with (fail)
    rw [← hW]
    clear hW
    go_upto_region 3 with (fail)
    have qc1 := fun d os => cell_regrown c1 d os
    have qc3 := fun d os => cell_regrown c3 d os
    have qb1 := fun d os => cell_regrown b1 d os
    refine wp_region_quiet_below (by kernel_rfl) (by kernel_rfl) ?_
    repeat (go_big_quiet_step ((exact Calls.regrown_of (HCt.out _ (below_regrown _ _ _)))))
    refine wpQuiet_nil ?_
    intro _ hw'
    obtain ⟨⟨dq, osq⟩, hw''⟩ := hw'
    subst hw''
    have bQ := below_regrown W dq osq
    obtain ⟨Z, eZ⟩ : ∃ Z, Z = Go.Sort.grow (Go.redrawn W dq) osq := ⟨_, rfl⟩
    rw [← eZ] at bQ ⊢
    clear eZ qc1 qc3 qb1 c1 c3 b1
    have hF := HSame.out Z bQ HA.out
    go_wp2
    exact bodyPost_end (v := .tuple #[]) (by simp [results, Tryd.results34, go_sem]) rfl hF
end Go.Proofs.YtdjnaahkcnklhaaDoor.Co
