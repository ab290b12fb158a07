/- Texts of this claim, one behind the other. -/
import Derived.Test.YtcfhhjnbkpgpeaaDoorA25RebuildDesk
import Derived.Test.YtcfhhjnbkpgpeaaDoorM26RebuildDesk
import Derived.Test.YtcfhhjnbkpgpeaaDoorM40RebuildDesk
import Derived.LoopTactic
import Derived.Deep.QuietTactic
import Derived.BigQuiet
import Derived.Test.YtcfhhjnbkpgpeaaDoorM44RebuildDesk
import Derived.Test.YtcfhhjnbkpgpeaaDoorM21RebuildDesk
import Derived.OwnWalk
import Derived.Lib.QuietBelow
/- Contracts of sameInts and sameRecord: at the same numbers, at the same record, they return true and leave what was in memory. -/
namespace Go.Proofs.YtcfhhjnbkpgpeaaDoor
open Go.ChangeShapes Go.WideShapes Go.ChangeAt Go.RowKit
set_option linter.unusedVariables false

set_option maxHeartbeats 1000000 in
theorem sameInts_rec (a b : Option Addr) (n cap cap' : Nat) (zs : List Int) (w : World) (h : IsInts w a n cap zs) (h' : IsInts w b n cap' zs) :
    Calls Tryd.prog 15 #[.slice a n cap, .slice b n cap'] w fun e w' => e = .returned (.bool true) ∧ Below w.heap.size w w' := by
  have hmx : n ≤ maxLen := Nat.le_trans h.2.1 h.2.2.1
  unfold maxLen at hmx
  go_enter Tryd.func15, Tryd.ntmps15
  go_wp2
  go_loopw [5] (fun i wr => ∃ k : Nat, k ≤ n ∧ i = .int .i64 k ∧ Below w.heap.size w wr) (fun i _ => n - (intOf i).toNat)
  case atStart => exact ⟨0, Nat.zero_le _, rfl, Below.refl _ _⟩
  case round =>
    obtain ⟨k, hk, rfl, hb⟩ := hrel
    by_cases hlt : k < n
    · have hlt' : (k : Int) < (n : Int) := by omega
      obtain ⟨b1, o1, rfl, _, c1⟩ := (h.below hb).2.2.2.2 (by omega)
      obtain ⟨b2, o2, rfl, _, c2⟩ := (h'.below hb).2.2.2.2 (by omega)
      have e1 := c1 k hlt
      have e2 := c2 k hlt
      obtain ⟨z, hz⟩ : ∃ z, z = zs.getD k 0 := ⟨_, rfl⟩
      rw [← hz] at e1 e2
      clear hz c1 c2
      go_wp2
      go_quiet (fail)
      go_wp2
      go_roundw
      case rel => exact ⟨k + 1, by omega, by go_num, below_drewN hb nq⟩
      case measure => simp [intOf]; omega
    · go_wp2
      go_ret
      exact ⟨rfl, hb⟩

end Go.Proofs.YtcfhhjnbkpgpeaaDoor
/- The walk of the law RebuildDesk: at any numbers it returns true and leaves what was in memory. -/
namespace Go.Proofs.YtcfhhjnbkpgpeaaDoor.Rb
open Go.ChangeShapes Go.WideShapes Go.ChangeAt Go.RowKit
open Go.Proofs.YtcfhhjnbkpgpeaaDoor.St Go.Proofs.YtcfhhjnbkpgpeaaDoor.Co Go.Proofs.YtcfhhjnbkpgpeaaDoor.Pt
set_option linter.unusedVariables false

theorem rcInfoD : (Tryd.prog.info? 31).map (fun i => (i.zero, i.size, i.bytes)) = some (some (.agg #[.int .i64 0, .int .i64 0, .int .i64 0, .int .i64 0, .int .i64 0, .int .i64 0, .bool false, .slice none 0 0]), 8, 80) := by kernel_rfl
theorem rcElemD : ∃ i, St.Elem 8 RcM.cells 31 32 i (.agg #[.int .i64 0, .int .i64 0, .int .i64 0, .int .i64 0, .int .i64 0, .int .i64 0, .bool false, .slice none 0 0]) 80 := by
  obtain ⟨i, h1, h2, h3, h4⟩ := info_parts rcInfoD
  exact ⟨i, (fun x => rfl), by decide, (fun x u hu => by
    simp only [RcM.cells, List.mem_cons, List.not_mem_nil, or_false] at hu
    rcases hu with h | h | h | h | h | h | h | h <;> subst h <;> rfl), Tryd.underlying32, h1, h2, h3, h4, rfl⟩
theorem rows_own (X : World) (cs : Array Value) (t : TypeId) (n : Nat) (hn : 1 ≤ n ∧ n ≤ 100) (hk : cs.size = n * 8) : (X.alloc (.cells cs t)).ownsRow X.heap.size t 8 (.slice (some ⟨X.heap.size, 0, none⟩) n n) n cs.toList := by
  refine ⟨by simp [hk], Or.inr ⟨X.heap.size, n, cs, rfl, Nat.le_refl _, heap_alloc_new X _, Nat.le_refl _, by unfold maxLen; omega, by omega, ?_⟩⟩
  rw [List.take_of_length_le (by simp [hk])]
def rB (k : Int) : RcP := ⟨5, 0, k, 0, 0, 0, false, []⟩
def rC (k : Int) (zs : List Int) : RcP := ⟨3, 0, k, 0, 0, 0, false, zs⟩
def rE (k : Int) : RcP := ⟨4, 0, k, 0, 0, 0, false, []⟩
theorem desk_two {k : Int} (hk : 1 ≤ k) (zs : List Int) : recDesk 0 [rB k, rC k zs] = (k + 1, if zs = [] then [] else [tellJ (rC k zs)]) := by
  have e : max 1 (k + 1) = k + 1 := by omega
  by_cases h : zs = []
  · subst h
    simp [recDesk, dkStep, rB, rC, e, tellP, tellNo]
  · have h1 : ¬ (k + 1 ≤ k) := by omega
    have h2 : ¬ zs.length = 0 := fun h8 => h (List.eq_nil_of_length_eq_zero h8)
    simp [recDesk, dkStep, rB, rC, e, tellP, tellNo, h, h1, tellAt, St.idxI, insJ]
theorem desk_three {k : Int} (hk : 1 ≤ k) (zs : List Int) : recDesk 0 [rB k, rC k zs, rE k] = (k + 1, []) := by
  have h8 : recDesk 0 [rB k, rC k zs, rE k] = dkStep 0 (recDesk 0 [rB k, rC k zs]) (rE k) := rfl
  rw [h8, desk_two hk]
  by_cases h : zs = []
  · simp [h, dkStep, rE, Co.keep]
  · simp [h, dkStep, rE, Co.keep, tellJ, isNr, rC]
theorem desk_other (k : Int) (zs : List Int) (l : List RcP) (hl : l = [rB k, rC k zs] ∨ l = [rB k, rC k zs, rE k]) : recDesk 1 l = (1, []) := by
  rcases hl with rfl | rfl <;> rfl
theorem cfg_one : cfgFault 3 [(0, 0)] 2 = 0 := by decide
theorem bare_one {js : List JbV} {k : Int} {zs : List Int} (h : js.map JbV.bare = [tellJ (rC k zs)]) : ∃ j, js = [j] ∧ j.state = 3 ∧ j.asked = zs := by
  cases js with
  | nil => simp at h
  | cons j l =>
    simp only [List.map_cons, List.cons.injEq, List.map_eq_nil_iff] at h
    obtain ⟨h1, rfl⟩ := h
    exact ⟨j, rfl, (congrArg JbV.state h1 : _), (congrArg JbV.asked h1 : _)⟩
theorem isInts_of {w : World} {a : Option Addr} {n c : Nat} {zs : List Int} (h : IsSites w a n c zs) (hb : ∀ i, -9223372036854775808 ≤ zs.getD i 0 ∧ zs.getD i 0 ≤ 9223372036854775807) : IsInts w a n c zs := by
  obtain ⟨h1, h2, h3, h4, h5⟩ := h
  refine ⟨h1, h2, h3, hb, fun h0 => ?_⟩
  obtain ⟨b, off, e, hl, hc⟩ := h5 h0
  refine ⟨b, off, e, hl, fun i hi => ?_⟩
  have h8 := hc i hi 0 (by decide)
  simp only [Nat.mul_one, Nat.add_zero] at h8
  rw [h8]
  rfl
set_option maxRecDepth 100000 in
set_option maxHeartbeats 16000000 in
theorem rebuildDesk_walk (n sites : Int) (ended : Bool) (w : World) (hn : (Lit.int .i64 n).wf = true) (hsites : (Lit.int .i64 sites).wf = true) (hHa : HasAt w 0 rHas) (hTo : TopsAt w) :
    Calls Tryd.prog 4 #[.int .i64 n, .int .i64 sites, .bool ended] w fun e w' => e = .returned (.bool true) ∧ Below w.heap.size w w' := by
  have bdn : -9223372036854775808 ≤ n ∧ n ≤ 9223372036854775807 := by
    simp [Lit.wf, IntKind.min, IntKind.max, IntKind.signed, IntKind.bits] at hn
    omega
  clear hn
  have bdsites : -9223372036854775808 ≤ sites ∧ sites ≤ 9223372036854775807 := by
    simp [Lit.wf, IntKind.min, IntKind.max, IntKind.signed, IntKind.bits] at hsites
    omega
  clear hsites
  have hgT : 1 < w.heap.size := World.block_lt_of_cell? w _ hTo.1
  have hgM : 0 < w.heap.size := hHa.lt (by decide)
  have KT : Hid (∀ U, Below w.heap.size w U → HasAt U 0 rHas ∧ TopsAt U) := fun U hU => ⟨hHa.below hU hgM, hTo.below hU hgT⟩
  clear hHa hTo hgT hgM
  have bw : Below w.heap.size w w := Below.refl _ _
  have hkk := pk_bd n 50 (by omega)
  have hPK := fun u => picked_any n 50 u bdn (by omega) (by omega)
  have hwr : IntKind.i64.wrap (1 + pk n 50) = 1 + pk n 50 := by simp [IntKind.wrap, IntKind.bits, IntKind.signed]; omega
  obtain ⟨P0, eP⟩ : ∃ x, x = pk n 50 := ⟨_, rfl⟩
  rw [← eP] at hPK hkk hwr
  clear eP
  obtain ⟨KK, eK⟩ : ∃ x, x = 1 + P0 := ⟨_, rfl⟩
  have hk1 : 1 ≤ KK ∧ KK ≤ 50 := by omega
  have HKP : Hid (KK = 1 + P0) := eK
  clear eK hkk
  have hRg := fun U => rec_goodK 3 2 (some ⟨w.heap.size, 0, none⟩) 1 1 [(0, 0)] 2 0 0 sites 0 0 U cfg_one (by omega) (by omega) (by unfold Bd; omega) (by unfold Bd; omega) (by unfold Bd; omega) (by unfold Bd; omega) (by unfold Bd; omega) (by unfold Bd; omega)
  have HRg : Hid (∀ U : World, Calls Tryd.prog 13 #[.agg #[.int .i64 3, .slice (some ⟨w.heap.size, 0, none⟩) 1 1, .int .i64 2], .agg #[.int .i64 2, .int .i64 0, .int .i64 0, .int .i64 sites, .int .i64 0, .int .i64 0]] U fun e w' => ∃ (s0 n0 : Int) (sa : Option Addr) (sl sc : Nat) (zs : List Int), e = .returned (.agg #[.int .i64 3, .int .i64 s0, .int .i64 n0, .int .i64 0, .int .i64 0, .int .i64 0, .bool false, .slice sa sl sc]) ∧ IsInts w' sa sl sc zs ∧ (sl ≤ 4 ∧ rising 3 0 zs = true) ∧ Below U.heap.size U w') := fun U => by
    refine (hRg U).mono ?_
    rintro e w' ⟨⟨kind, site, num, key, value, ask, yes, sa, sl, sc, zs⟩, rfl, hG, ⟨h1, h2⟩, hb⟩
    have e1 : kind = 3 := h1
    subst e1
    obtain ⟨a1, a2, a3, a4, a5, a6⟩ := h2 rfl
    simp only at a1 a2 a3 a4
    subst a1 a2 a3 a4
    exact ⟨site, num, sa, sl, sc, zs, rfl, hG.ints, ⟨a5, a6⟩, hb⟩
  clear hRg
  go_enter Tryd.func4, Tryd.ntmps4
  go_upto_region 2 with (fail)
  obtain ⟨X1, eX1⟩ : ∃ X : World, X = (w.alloc (.cells #[.int .i64 0, .int .i64 0] 54)).alloc (.cells #[.int .i64 3, .slice (some ⟨w.heap.size, 0, none⟩) 1 1, .int .i64 2] 24) := ⟨_, rfl⟩
  have lb : BoxN X1 w.heap.size 2 [.int .i64 0, .int .i64 0] := by rw [eX1]; have h8 := boxn_new w #[.int .i64 0, .int .i64 0] 54 2 rfl; exact h8.below ((Below.refl _ _).alloc (Nat.le_refl _) _) h8.lt
  have cb : BoxN X1 (w.heap.size + 1) 3 [.int .i64 3, .slice (some ⟨w.heap.size, 0, none⟩) 1 1, .int .i64 2] := by rw [eX1]; have h8 := boxn_new (w.alloc (.cells #[.int .i64 0, .int .i64 0] 54)) #[.int .i64 3, .slice (some ⟨w.heap.size, 0, none⟩) 1 1, .int .i64 2] 24 3 rfl; simpa using h8
  have bX1 : Below w.heap.size w X1 := by rw [eX1]; exact ((Below.refl _ _).alloc (Nat.le_refl _) _).alloc (by simp) _
  rw [← eX1]
  clear eX1
  replace bw := bw.trans (bX1.mono bw.size)
  have hlab : IsLabs X1 (some ⟨w.heap.size, 0, none⟩) 1 1 [(0, 0)] := by
    refine ⟨rfl, Nat.le_refl _, by unfold maxLen; omega, fun _ => ⟨w.heap.size, 0, rfl, lb.lt, fun i hi => ?_⟩⟩
    obtain rfl : i = 0 := by simp at hi; omega
    exact ⟨(lb.c 0 (by decide)).1, (lb.c 1 (by decide)).1⟩
  clear lb
  go_upto_region 3 with (go_at_call 8; refine (hPK _).mono ?_; rintro e u ⟨rfl, hu⟩; rw [hu]; clear hu)
  rw [← HKP.out]
  clear hPK hwr
  have hRg := HRg.out X1
  clear HRg
  have cb_0 : X1.cell? ⟨w.heap.size + 1, 0, none⟩ = some (.int .i64 3) := (cb.c 0 (by decide)).1
  have cb_1 : X1.cell? ⟨w.heap.size + 1, 1, none⟩ = some (.slice (some ⟨w.heap.size, 0, none⟩) 1 1) := (cb.c 1 (by decide)).1
  have cb_2 : X1.cell? ⟨w.heap.size + 1, 2, none⟩ = some (.int .i64 2) := (cb.c 2 (by decide)).1
  have cb_z := cb.lt
  go_upto_region 4 with (go_at_call 13; refine hRg.mono ?_; rintro e w1 ⟨s0, n0, sa, sl, sc, zs, rfl, hIn, hZs, hb1⟩)
  clear cb_0 cb_1 cb_2 cb_z
  clear hRg
  replace cb := cb.below hb1 cb.lt
  replace bw := bw.trans (hb1.mono bw.size)
  replace hlab := hlab.below hb1
  have hInn : ∀ b off, sa = some ⟨b, off, none⟩ → 0 < sl → b < w1.heap.size := fun b off e h0 => by
    obtain ⟨b2, o2, e2, h2, -⟩ := hIn.2.2.2.2 h0
    rw [e] at e2
    simp at e2
    omega
  have HInn : Hid (∀ b off, sa = some ⟨b, off, none⟩ → 0 < sl → b < w1.heap.size) := hInn
  have HLab : Hid (IsLabs w1 (some ⟨w.heap.size, 0, none⟩) 1 1 [(0, 0)]) := hlab
  have HIn : Hid (IsInts w1 sa sl sc zs) := hIn
  have HCb : Hid (BoxN w1 (w.heap.size + 1) 3 [.int .i64 3, .slice (some ⟨w.heap.size, 0, none⟩) 1 1, .int .i64 2]) := cb
  clear hInn
  obtain ⟨X2, eX2⟩ : ∃ X : World, X = w1.alloc (.cells #[.int .i64 3, .int .i64 s0, .int .i64 n0, .int .i64 0, .int .i64 0, .int .i64 0, .bool false, .slice sa sl sc] 31) := ⟨_, rfl⟩
  have rb : BoxN X2 w1.heap.size 8 [.int .i64 3, .int .i64 s0, .int .i64 n0, .int .i64 0, .int .i64 0, .int .i64 0, .bool false, .slice sa sl sc] := by rw [eX2]; exact boxn_new w1 #[.int .i64 3, .int .i64 s0, .int .i64 n0, .int .i64 0, .int .i64 0, .int .i64 0, .bool false, .slice sa sl sc] 31 8 rfl
  have bX2 : Below w1.heap.size w1 X2 := by rw [eX2]; exact (Below.refl _ _).alloc (Nat.le_refl _) _
  rw [← eX2]
  clear eX2
  replace cb := cb.below bX2 cb.lt
  replace bw := bw.trans (bX2.mono bw.size)
  replace hlab := hlab.below bX2
  replace hIn := hIn.below bX2
  have rbf1 := (rb.c 1 (by decide)).2
  have rbf2 := (rb.c 2 (by decide)).2
  have rb_0 : X2.cell? ⟨w1.heap.size, 0, none⟩ = some (.int .i64 3) := (rb.c 0 (by decide)).1
  have rb_1 : X2.cell? ⟨w1.heap.size, 1, none⟩ = some (.int .i64 s0) := (rb.c 1 (by decide)).1
  have rb_2 : X2.cell? ⟨w1.heap.size, 2, none⟩ = some (.int .i64 n0) := (rb.c 2 (by decide)).1
  have rb_3 : X2.cell? ⟨w1.heap.size, 3, none⟩ = some (.int .i64 0) := (rb.c 3 (by decide)).1
  have rb_4 : X2.cell? ⟨w1.heap.size, 4, none⟩ = some (.int .i64 0) := (rb.c 4 (by decide)).1
  have rb_5 : X2.cell? ⟨w1.heap.size, 5, none⟩ = some (.int .i64 0) := (rb.c 5 (by decide)).1
  have rb_6 : X2.cell? ⟨w1.heap.size, 6, none⟩ = some (.bool false) := (rb.c 6 (by decide)).1
  have rb_7 : X2.cell? ⟨w1.heap.size, 7, none⟩ = some (.slice sa sl sc) := (rb.c 7 (by decide)).1
  have rb_z := rb.lt
  go_upto_region 5 with (fail)
  clear rb_0 rb_1 rb_2 rb_3 rb_4 rb_5 rb_6 rb_7 rb_z
  obtain ⟨Y, eY⟩ : ∃ Y : World, Y = (X2.setCell ⟨w1.heap.size, 1, none⟩ (.int .i64 0)).setCell ⟨w1.heap.size, 2, none⟩ (.int .i64 KK) := ⟨_, rfl⟩
  have rb2 : BoxN Y w1.heap.size 8 [.int .i64 3, .int .i64 0, .int .i64 KK, .int .i64 0, .int .i64 0, .int .i64 0, .bool false, .slice sa sl sc] := by rw [eY]; exact (rb.set 1 (by decide) _).set 2 (by decide) _
  have bY : Below w.heap.size w Y := by rw [eY]; exact (bw.setCell (p := ⟨w1.heap.size, 1, none⟩) (by show w.heap.size ≤ w1.heap.size; have := hb1.size; have := bX1.size; omega) _).setCell (p := ⟨w1.heap.size, 2, none⟩) (by show w.heap.size ≤ w1.heap.size; have := hb1.size; have := bX1.size; omega) _
  have bYc : Below w1.heap.size w1 Y := by rw [eY]; exact (bX2.setCell (p := ⟨w1.heap.size, 1, none⟩) (Nat.le_refl _) _).setCell (p := ⟨w1.heap.size, 2, none⟩) (Nat.le_refl _) _
  rw [← eY]
  clear eY rb rbf1 rbf2
  have hlab2 : IsLabs Y (some ⟨w.heap.size, 0, none⟩) 1 1 [(0, 0)] := HLab.out.below bYc
  have hIn2 : IsInts Y sa sl sc zs := HIn.out.below bYc
  have cb2 : BoxN Y (w.heap.size + 1) 3 [.int .i64 3, .slice (some ⟨w.heap.size, 0, none⟩) 1 1, .int .i64 2] := HCb.out.below bYc HCb.out.lt
  clear hlab hIn cb bw HLab HIn HCb
  have HYw : Hid (w.heap.size ≤ Y.heap.size) := bY.size
  have HLY : Hid (IsLabs Y (some ⟨w.heap.size, 0, none⟩) 1 1 [(0, 0)]) := hlab2
  have HIY : Hid (IsInts Y sa sl sc zs) := hIn2
  have HCY : Hid (BoxN Y (w.heap.size + 1) 3 [.int .i64 3, .slice (some ⟨w.heap.size, 0, none⟩) 1 1, .int .i64 2]) := cb2
  have HRY : Hid (BoxN Y w1.heap.size 8 [.int .i64 3, .int .i64 0, .int .i64 KK, .int .i64 0, .int .i64 0, .int .i64 0, .bool false, .slice sa sl sc]) := rb2
  have HBY : Hid (Below w.heap.size w Y) := bY
  have rb2_0 : Y.cell? ⟨w1.heap.size, 0, none⟩ = some (.int .i64 3) := (rb2.c 0 (by decide)).1
  have rb2_1 : Y.cell? ⟨w1.heap.size, 1, none⟩ = some (.int .i64 0) := (rb2.c 1 (by decide)).1
  have rb2_2 : Y.cell? ⟨w1.heap.size, 2, none⟩ = some (.int .i64 KK) := (rb2.c 2 (by decide)).1
  have rb2_3 : Y.cell? ⟨w1.heap.size, 3, none⟩ = some (.int .i64 0) := (rb2.c 3 (by decide)).1
  have rb2_4 : Y.cell? ⟨w1.heap.size, 4, none⟩ = some (.int .i64 0) := (rb2.c 4 (by decide)).1
  have rb2_5 : Y.cell? ⟨w1.heap.size, 5, none⟩ = some (.int .i64 0) := (rb2.c 5 (by decide)).1
  have rb2_6 : Y.cell? ⟨w1.heap.size, 6, none⟩ = some (.bool false) := (rb2.c 6 (by decide)).1
  have rb2_7 : Y.cell? ⟨w1.heap.size, 7, none⟩ = some (.slice sa sl sc) := (rb2.c 7 (by decide)).1
  have rb2_z := rb2.lt
  go_upto_region 6 with (fail)
  clear rb2_0 rb2_1 rb2_2 rb2_3 rb2_4 rb2_5 rb2_6 rb2_7 rb2_z
  obtain ⟨Z, eZ⟩ : ∃ Z : World, Z = Y.alloc (.cells #[.int .i64 5, .int .i64 0, .int .i64 KK, .int .i64 0, .int .i64 0, .int .i64 0, .bool false, .slice none 0 0, .int .i64 3, .int .i64 0, .int .i64 KK, .int .i64 0, .int .i64 0, .int .i64 0, .bool false, .slice sa sl sc] 31) := ⟨_, rfl⟩
  have hOw : Z.ownsRow Y.heap.size 31 8 (.slice (some ⟨Y.heap.size, 0, none⟩) 2 2) 2 (St.flat RcM.cells [⟨rB KK, none, 0, 0⟩, ⟨rC KK zs, sa, sl, sc⟩]) := by rw [eZ]; exact rows_own Y #[.int .i64 5, .int .i64 0, .int .i64 KK, .int .i64 0, .int .i64 0, .int .i64 0, .bool false, .slice none 0 0, .int .i64 3, .int .i64 0, .int .i64 KK, .int .i64 0, .int .i64 0, .int .i64 0, .bool false, .slice sa sl sc] 31 2 (by omega) rfl
  have bZ : Below Y.heap.size Y Z := by rw [eZ]; exact (Below.refl _ _).alloc (Nat.le_refl _) _
  rw [← eZ]
  clear eZ
  replace cb2 := cb2.below bZ cb2.lt
  replace rb2 := rb2.below bZ rb2.lt
  replace bY := bY.trans (bZ.mono bY.size)
  replace hlab2 := hlab2.below bZ
  replace hIn2 := hIn2.below bZ
  have hfC : recFault 3 [(0, 0)] 2 (RcP.v (rC KK zs)) = 0 := by
    have hl : zs.length = sl := hIn2.1
    have h9 : recFault 3 [(0, 0)] 2 ⟨3, 0, KK, 0, 0, 0, false, none, zs.length, zs.length, zs⟩ = 0 := rec_ok cfg_one (by omega) (by omega) (by omega) (by omega) (by omega) (by omega) (by omega) hZs.2 (by simp [hasAll, rHasOf, rHas, bit])
    exact h9
  have hfB : recFault 3 [(0, 0)] 2 (RcP.v (rB KK)) = 0 := by
    have h9 : recFault 3 [(0, 0)] 2 ⟨5, 0, KK, 0, 0, 0, false, none, 0, 0, []⟩ = 0 := rec_ok cfg_one (by omega) (by omega) (by omega) (by omega) (by omega) (by omega) (by omega) rfl (by simp [hasAll, rHasOf, rHas, bit])
    exact h9
  have hfE : recFault 3 [(0, 0)] 2 (RcP.v (rE KK)) = 0 := by
    have h9 : recFault 3 [(0, 0)] 2 ⟨4, 0, KK, 0, 0, 0, false, none, 0, 0, []⟩ = 0 := rec_ok cfg_one (by omega) (by omega) (by omega) (by omega) (by omega) (by omega) (by omega) rfl (by simp [hasAll, rHasOf, rHas, bit])
    exact h9
  have hwk : IntKind.i64.wrap (KK + 1) = KK + 1 := by simp [IntKind.wrap, IntKind.bits, IntKind.signed]; omega
  cases ended with
  | true =>
    obtain ⟨iE, ER⟩ := rcElemD
    have rb2_0 : Z.cell? ⟨w1.heap.size, 0, none⟩ = some (.int .i64 3) := (rb2.c 0 (by decide)).1
    have rb2_1 : Z.cell? ⟨w1.heap.size, 1, none⟩ = some (.int .i64 0) := (rb2.c 1 (by decide)).1
    have rb2_2 : Z.cell? ⟨w1.heap.size, 2, none⟩ = some (.int .i64 KK) := (rb2.c 2 (by decide)).1
    have rb2_3 : Z.cell? ⟨w1.heap.size, 3, none⟩ = some (.int .i64 0) := (rb2.c 3 (by decide)).1
    have rb2_4 : Z.cell? ⟨w1.heap.size, 4, none⟩ = some (.int .i64 0) := (rb2.c 4 (by decide)).1
    have rb2_5 : Z.cell? ⟨w1.heap.size, 5, none⟩ = some (.int .i64 0) := (rb2.c 5 (by decide)).1
    have rb2_6 : Z.cell? ⟨w1.heap.size, 6, none⟩ = some (.bool false) := (rb2.c 6 (by decide)).1
    have rb2_7 : Z.cell? ⟨w1.heap.size, 7, none⟩ = some (.slice sa sl sc) := (rb2.c 7 (by decide)).1
    have rb2_z := rb2.lt
    have hAp : ∀ U, U = Z.alloc (.cells #[.int .i64 4, .int .i64 0, .int .i64 KK, .int .i64 0, .int .i64 0, .int .i64 0, .bool false, .slice none 0 0] 31) → IsRow 8 RcM.cells U (some ⟨Z.heap.size, 0, none⟩) 1 1 [⟨rE KK, none, 0, 0⟩] := fun U e => by
      rw [e]
      exact (own_isRow (k := 8) (cells := RcM.cells) (fun x => rfl) (rows_own Z #[.int .i64 4, .int .i64 0, .int .i64 KK, .int .i64 0, .int .i64 0, .int .i64 0, .bool false, .slice none 0 0] 31 1 (by omega) rfl) rfl).1
    have bZ2 : Below Z.heap.size Z (Z.alloc (.cells #[.int .i64 4, .int .i64 0, .int .i64 KK, .int .i64 0, .int .i64 0, .int .i64 0, .bool false, .slice none 0 0] 31)) := (Below.refl _ _).alloc (Nat.le_refl _) _
    go_upto_region 8 with (at_builtin; refine St.wpList_append_row ER (by rfl) (.tmp 38) (.tmp 42) (by rfl) Y.heap.size (.slice (some ⟨Y.heap.size, 0, none⟩) 2 2) 2 [⟨rB KK, none, 0, 0⟩, ⟨rC KK zs, sa, sl, sc⟩] (by rfl) (own_below hOw bZ2) (some ⟨Z.heap.size, 0, none⟩) 1 1 [⟨rE KK, none, 0, 0⟩] (by rfl) (hAp _ rfl) (by unfold maxLen; omega) (by omega) (by have := bZ.size; simp; omega) ?_; intro a6 c6 u6 own6 gr6 at6)
    have hu6 : Below Y.heap.size Y u6 := (bZ.trans (bZ2.mono bZ.size)).grown gr6 (Nat.le_trans bZ.size bZ2.size) (fun q hq => by have := (hOw.lt q hq).1; omega)
    have own7 : u6.ownsRow Y.heap.size 31 8 (.slice a6 3 c6) 3 (St.flat RcM.cells [⟨rB KK, none, 0, 0⟩, ⟨rC KK zs, sa, sl, sc⟩, ⟨rE KK, none, 0, 0⟩]) := own6
    clear bY hlab2 hIn2 cb2 rb2 own6 at6 gr6 hAp bZ2 hOw bZ
    have bY := HBY.out.trans (hu6.mono HBY.out.size)
    have hlab2 := HLY.out.below hu6
    have hIn2 := HIY.out.below hu6
    have cb2 := HCY.out.below hu6 HCY.out.lt
    have rb2 := HRY.out.below hu6 HRY.out.lt
    clear HBY HLY HIY HCY HRY
    have hRec : RecsAt u6 a6 3 c6 [⟨rB KK, none, 0, 0⟩, ⟨rC KK zs, sa, sl, sc⟩, ⟨rE KK, none, 0, 0⟩] := by
      refine ⟨(own_isRow (k := 8) (cells := RcM.cells) (fun x => rfl) own7 rfl).1, fun r hr => ?_⟩
      simp only [List.mem_cons, List.not_mem_nil, or_false] at hr
      rcases hr with rfl | rfl | rfl
      · exact isI_nil u6
      · exact hIn2
      · exact isI_nil u6
    clear own7
    clear rb2_0 rb2_1 rb2_2 rb2_3 rb2_4 rb2_5 rb2_6 rb2_7 rb2_z
    have hall : ∀ r ∈ [rB KK, rC KK zs, rE KK], recFault 3 [(0, 0)] 2 (RcP.v r) = 0 := fun r hr => by
      simp only [List.mem_cons, List.not_mem_nil, or_false] at hr
      rcases hr with rfl | rfl | rfl
      · exact hfB
      · exact hfC
      · exact hfE
    have HR : Hid (∀ U, Below u6.heap.size u6 U → Calls Tryd.prog 9 #[.agg #[.int .i64 3, .slice (some ⟨w.heap.size, 0, none⟩) 1 1, .int .i64 2], .int .i64 0, .slice a6 3 c6] U fun e w' => ∃ (q : Rt) (na : Option Addr) (nl nc : Nat), e = .returned (.tuple #[q.s.val, .agg #[.int .i64 (KK + 1), .slice q.a q.js.length q.c], .slice na nl nc, .int .i64 0]) ∧ IsJobs w' q.a q.js.length q.c q.js ∧ dkErr 3 [(0, 0)] 2 (KK + 1) q.js = 0 ∧ q.js.map JbV.bare = [] ∧ Below U.heap.size U w') := fun U hU => by
      have hT := KT.out U (bY.trans (hU.mono bY.size))
      refine (rebuild_ok 3 2 (some ⟨w.heap.size, 0, none⟩) 1 1 [(0, 0)] 0 a6 3 c6 [⟨rB KK, none, 0, 0⟩, ⟨rC KK zs, sa, sl, sc⟩, ⟨rE KK, none, 0, 0⟩] U (hlab2.below hU) (hRec.below hU) hT.1 hT.2 (by omega) (rbErr_ok cfg_one (by omega) hall)).mono ?_
      rintro e w' ⟨q, na, nc, rfl, h5, -, h7, h8⟩
      have hdk := recDesk_ok (nl := 1) (me := 0) (fun r hr => (rec_tx (hall r hr)).2)
      have e7 : recDesk 0 ([⟨rB KK, none, 0, 0⟩, ⟨rC KK zs, sa, sl, sc⟩, ⟨rE KK, none, 0, 0⟩].map RcM.p) = (KK + 1, []) := desk_three hk1.1 zs
      have e8 : recDesk 0 [rB KK, rC KK zs, rE KK] = (KK + 1, []) := desk_three hk1.1 zs
      rw [e7] at h7 ⊢
      rw [e8] at hdk
      exact ⟨q, na, _, nc, rfl, h5.jb.is, dk_zero cfg_one (by rw [h7]; exact hdk), h7, h8⟩
    have HR1 : Hid (∀ U, Below u6.heap.size u6 U → Calls Tryd.prog 9 #[.agg #[.int .i64 3, .slice (some ⟨w.heap.size, 0, none⟩) 1 1, .int .i64 2], .int .i64 1, .slice a6 3 c6] U fun e w' => ∃ (q : Rt) (na : Option Addr) (nl nc : Nat), e = .returned (.tuple #[q.s.val, .agg #[.int .i64 1, .slice q.a 0 q.c], .slice na nl nc, .int .i64 0]) ∧ Below U.heap.size U w') := fun U hU => by
      have hT := KT.out U (bY.trans (hU.mono bY.size))
      refine (rebuild_ok 3 2 (some ⟨w.heap.size, 0, none⟩) 1 1 [(0, 0)] 1 a6 3 c6 [⟨rB KK, none, 0, 0⟩, ⟨rC KK zs, sa, sl, sc⟩, ⟨rE KK, none, 0, 0⟩] U (hlab2.below hU) (hRec.below hU) hT.1 hT.2 (by omega) (rbErr_ok cfg_one (by omega) hall)).mono ?_
      rintro e w' ⟨q, na, nc, rfl, h5, -, h7, h8⟩
      have e7 : recDesk 1 ([⟨rB KK, none, 0, 0⟩, ⟨rC KK zs, sa, sl, sc⟩, ⟨rE KK, none, 0, 0⟩].map RcM.p) = (1, []) := desk_other KK zs _ (Or.inr rfl)
      rw [e7] at h7 ⊢
      have e9 : q.js.length = 0 := by have := congrArg List.length h7; simpa using this
      rw [e9]
      exact ⟨q, na, _, nc, rfl, h8⟩
    clear hRec hall hfB hfC hfE KT
    have hR := HR.out u6 (Below.refl _ _)
    clear HR
    have cb2_0 : u6.cell? ⟨w.heap.size + 1, 0, none⟩ = some (.int .i64 3) := (cb2.c 0 (by decide)).1
    have cb2_1 : u6.cell? ⟨w.heap.size + 1, 1, none⟩ = some (.slice (some ⟨w.heap.size, 0, none⟩) 1 1) := (cb2.c 1 (by decide)).1
    have cb2_2 : u6.cell? ⟨w.heap.size + 1, 2, none⟩ = some (.int .i64 2) := (cb2.c 2 (by decide)).1
    have cb2_z := cb2.lt
    go_upto_region 9 with (go_at_call 9; refine hR.mono ?_; rintro e y1 ⟨⟨⟨ia, il, ic, la, ll, lc, da, dl, dc, oa, ol, oc, its, lks, dbs, ovs⟩, ja, jc, js⟩, na, nl, nc, rfl, hJ, hdk, hbare, hc1⟩; simp only [SV.val])
    clear cb2_0 cb2_1 cb2_2 cb2_z
    clear hR
    simp only [] at hJ hdk hbare
    have hR1 := HR1.out
    clear HR1
    obtain ⟨JL, eJL⟩ : ∃ x, x = js.length := ⟨_, rfl⟩
    rw [← eJL] at hJ ⊢
    have HJL : Hid (JL = js.length) := eJL
    clear eJL
    replace cb2 := cb2.below hc1 cb2.lt
    replace rb2 := rb2.below hc1 rb2.lt
    replace bY := bY.trans (hc1.mono bY.size)
    replace hlab2 := hlab2.below hc1
    replace hIn2 := hIn2.below hc1
    obtain ⟨X3, eX3⟩ : ∃ X : World, X = (y1.alloc (.cells #[.slice ia il ic, .slice la ll lc, .slice da dl dc, .slice oa ol oc] 38)).alloc (.cells #[.int .i64 (KK + 1), .slice ja JL jc] 41) := ⟨_, rfl⟩
    have sb : BoxN X3 y1.heap.size 4 [.slice ia il ic, .slice la ll lc, .slice da dl dc, .slice oa ol oc] := by rw [eX3]; have h8 := boxn_new y1 #[.slice ia il ic, .slice la ll lc, .slice da dl dc, .slice oa ol oc] 38 4 rfl; exact h8.below ((Below.refl _ _).alloc (Nat.le_refl _) _) h8.lt
    have db : BoxN X3 (y1.heap.size + 1) 2 [.int .i64 (KK + 1), .slice ja JL jc] := by rw [eX3]; have h8 := boxn_new (y1.alloc (.cells #[.slice ia il ic, .slice la ll lc, .slice da dl dc, .slice oa ol oc] 38)) #[.int .i64 (KK + 1), .slice ja JL jc] 41 2 rfl; simpa using h8
    have bX3 : Below y1.heap.size y1 X3 := by rw [eX3]; exact ((Below.refl _ _).alloc (Nat.le_refl _) _).alloc (by simp) _
    rw [← eX3]
    clear eX3
    replace cb2 := cb2.below bX3 cb2.lt
    replace rb2 := rb2.below bX3 rb2.lt
    replace bY := bY.trans (bX3.mono bY.size)
    replace hlab2 := hlab2.below bX3
    replace hIn2 := hIn2.below bX3
    replace hJ := hJ.below bX3
    have hR2 := hR1 X3 (nT hc1 bX3)
    clear hR1
    have cb2_0 : X3.cell? ⟨w.heap.size + 1, 0, none⟩ = some (.int .i64 3) := (cb2.c 0 (by decide)).1
    have cb2_1 : X3.cell? ⟨w.heap.size + 1, 1, none⟩ = some (.slice (some ⟨w.heap.size, 0, none⟩) 1 1) := (cb2.c 1 (by decide)).1
    have cb2_2 : X3.cell? ⟨w.heap.size + 1, 2, none⟩ = some (.int .i64 2) := (cb2.c 2 (by decide)).1
    have cb2_z := cb2.lt
    go_upto_region 10 with (go_at_call 9; refine hR2.mono ?_; rintro e y2 ⟨⟨⟨ia2, il2, ic2, la2, ll2, lc2, da2, dl2, dc2, oa2, ol2, oc2, its2, lks2, dbs2, ovs2⟩, ja2, jc2, js2⟩, na2, nl2, nc2, rfl, hc2⟩; simp only [SV.val])
    clear cb2_0 cb2_1 cb2_2 cb2_z
    clear hR2
    replace cb2 := cb2.below hc2 cb2.lt
    replace rb2 := rb2.below hc2 rb2.lt
    replace sb := sb.below hc2 sb.lt
    replace db := db.below hc2 db.lt
    replace bY := bY.trans (hc2.mono bY.size)
    replace hlab2 := hlab2.below hc2
    replace hIn2 := hIn2.below hc2
    replace hJ := hJ.below hc2
    obtain ⟨X4, eX4⟩ : ∃ X : World, X = (y2.alloc (.cells #[.slice ia2 il2 ic2, .slice la2 ll2 lc2, .slice da2 dl2 dc2, .slice oa2 ol2 oc2] 38)).alloc (.cells #[.int .i64 1, .slice ja2 0 jc2] 41) := ⟨_, rfl⟩
    have sb2 : BoxN X4 y2.heap.size 4 [.slice ia2 il2 ic2, .slice la2 ll2 lc2, .slice da2 dl2 dc2, .slice oa2 ol2 oc2] := by rw [eX4]; have h8 := boxn_new y2 #[.slice ia2 il2 ic2, .slice la2 ll2 lc2, .slice da2 dl2 dc2, .slice oa2 ol2 oc2] 38 4 rfl; exact h8.below ((Below.refl _ _).alloc (Nat.le_refl _) _) h8.lt
    have db2 : BoxN X4 (y2.heap.size + 1) 2 [.int .i64 1, .slice ja2 0 jc2] := by rw [eX4]; have h8 := boxn_new (y2.alloc (.cells #[.slice ia2 il2 ic2, .slice la2 ll2 lc2, .slice da2 dl2 dc2, .slice oa2 ol2 oc2] 38)) #[.int .i64 1, .slice ja2 0 jc2] 41 2 rfl; simpa using h8
    have bX4 : Below y2.heap.size y2 X4 := by rw [eX4]; exact ((Below.refl _ _).alloc (Nat.le_refl _) _).alloc (by simp) _
    rw [← eX4]
    clear eX4
    replace cb2 := cb2.below bX4 cb2.lt
    replace rb2 := rb2.below bX4 rb2.lt
    replace sb := sb.below bX4 sb.lt
    replace db := db.below bX4 db.lt
    replace bY := bY.trans (bX4.mono bY.size)
    replace hlab2 := hlab2.below bX4
    replace hIn2 := hIn2.below bX4
    replace hJ := hJ.below bX4
    have hCd := deskCheck_any 3 2 (some ⟨w.heap.size, 0, none⟩) 1 1 [(0, 0)] (KK + 1) ja JL jc js X4 hlab2 hJ
    rw [hdk] at hCd
    clear hdk
    have cb2_0 : X4.cell? ⟨w.heap.size + 1, 0, none⟩ = some (.int .i64 3) := (cb2.c 0 (by decide)).1
    have cb2_1 : X4.cell? ⟨w.heap.size + 1, 1, none⟩ = some (.slice (some ⟨w.heap.size, 0, none⟩) 1 1) := (cb2.c 1 (by decide)).1
    have cb2_2 : X4.cell? ⟨w.heap.size + 1, 2, none⟩ = some (.int .i64 2) := (cb2.c 2 (by decide)).1
    have cb2_z := cb2.lt
    have db_0 : X4.cell? ⟨y1.heap.size + 1, 0, none⟩ = some (.int .i64 (KK + 1)) := (db.c 0 (by decide)).1
    have db_1 : X4.cell? ⟨y1.heap.size + 1, 1, none⟩ = some (.slice ja JL jc) := (db.c 1 (by decide)).1
    have db_z := db.lt
    have db2_0 : X4.cell? ⟨y2.heap.size + 1, 0, none⟩ = some (.int .i64 1) := (db2.c 0 (by decide)).1
    have db2_1 : X4.cell? ⟨y2.heap.size + 1, 1, none⟩ = some (.slice ja2 0 jc2) := (db2.c 1 (by decide)).1
    have db2_z := db2.lt
    go_upto_region 12 with (go_at_call 14; refine hCd.mono ?_; rintro e y3 ⟨rfl, hc3⟩)
    clear hCd
    clear cb2_0 cb2_1 cb2_2 cb2_z db_0 db_1 db_z db2_0 db2_1 db2_z
    replace cb2 := cb2.below hc3 cb2.lt
    replace rb2 := rb2.below hc3 rb2.lt
    replace sb := sb.below hc3 sb.lt
    replace db := db.below hc3 db.lt
    replace sb2 := sb2.below hc3 sb2.lt
    replace db2 := db2.below hc3 db2.lt
    replace bY := bY.trans (hc3.mono bY.size)
    replace hlab2 := hlab2.below hc3
    replace hIn2 := hIn2.below hc3
    replace hJ := hJ.below hc3
    have e0 : js = [] := by simpa using hbare
    have e1 : JL = 0 := by rw [HJL.out, e0]; rfl
    subst e1
    have db_1 : y3.cell? ⟨y1.heap.size + 1, 1, none⟩ = some (.slice ja 0 jc) := (db.c 1 (by decide)).1
    have db_z := db.lt
    clear cb2 rb2 sb db sb2 db2 hlab2 hIn2 hJ hbare
    go_wp2
    go_ret
    exact ⟨by simp, bY⟩
  | false =>
    have hRec : RecsAt Z (some ⟨Y.heap.size, 0, none⟩) 2 2 [⟨rB KK, none, 0, 0⟩, ⟨rC KK zs, sa, sl, sc⟩] := by
      refine ⟨(own_isRow (k := 8) (cells := RcM.cells) (fun x => rfl) hOw rfl).1, fun r hr => ?_⟩
      simp only [List.mem_cons, List.not_mem_nil, or_false] at hr
      rcases hr with rfl | rfl
      · exact isI_nil Z
      · exact hIn2
    clear hOw HBY HLY HIY HCY HRY
    go_upto_region 8 with (fail)
    have hall : ∀ r ∈ [rB KK, rC KK zs], recFault 3 [(0, 0)] 2 (RcP.v r) = 0 := fun r hr => by
      simp only [List.mem_cons, List.not_mem_nil, or_false] at hr
      rcases hr with rfl | rfl
      · exact hfB
      · exact hfC
    have HR : Hid (∀ U, Below Z.heap.size Z U → Calls Tryd.prog 9 #[.agg #[.int .i64 3, .slice (some ⟨w.heap.size, 0, none⟩) 1 1, .int .i64 2], .int .i64 0, .slice (some ⟨Y.heap.size, 0, none⟩) 2 2] U fun e w' => ∃ (q : Rt) (na : Option Addr) (nl nc : Nat), e = .returned (.tuple #[q.s.val, .agg #[.int .i64 (KK + 1), .slice q.a q.js.length q.c], .slice na nl nc, .int .i64 0]) ∧ IsJobs w' q.a q.js.length q.c q.js ∧ dkErr 3 [(0, 0)] 2 (KK + 1) q.js = 0 ∧ q.js.map JbV.bare = (if zs = [] then [] else [tellJ (rC KK zs)]) ∧ Below U.heap.size U w') := fun U hU => by
      have hT := KT.out U (bY.trans (hU.mono bY.size))
      refine (rebuild_ok 3 2 (some ⟨w.heap.size, 0, none⟩) 1 1 [(0, 0)] 0 (some ⟨Y.heap.size, 0, none⟩) 2 2 [⟨rB KK, none, 0, 0⟩, ⟨rC KK zs, sa, sl, sc⟩] U (hlab2.below hU) (hRec.below hU) hT.1 hT.2 (by omega) (rbErr_ok cfg_one (by omega) hall)).mono ?_
      rintro e w' ⟨q, na, nc, rfl, h5, -, h7, h8⟩
      have hdk := recDesk_ok (nl := 1) (me := 0) (fun r hr => (rec_tx (hall r hr)).2)
      have e7 : recDesk 0 ([⟨rB KK, none, 0, 0⟩, ⟨rC KK zs, sa, sl, sc⟩].map RcM.p) = (KK + 1, (if zs = [] then [] else [tellJ (rC KK zs)])) := desk_two hk1.1 zs
      have e8 : recDesk 0 [rB KK, rC KK zs] = (KK + 1, (if zs = [] then [] else [tellJ (rC KK zs)])) := desk_two hk1.1 zs
      rw [e7] at h7 ⊢
      rw [e8] at hdk
      exact ⟨q, na, _, nc, rfl, h5.jb.is, dk_zero cfg_one (by rw [h7]; exact hdk), h7, h8⟩
    have HR1 : Hid (∀ U, Below Z.heap.size Z U → Calls Tryd.prog 9 #[.agg #[.int .i64 3, .slice (some ⟨w.heap.size, 0, none⟩) 1 1, .int .i64 2], .int .i64 1, .slice (some ⟨Y.heap.size, 0, none⟩) 2 2] U fun e w' => ∃ (q : Rt) (na : Option Addr) (nl nc : Nat), e = .returned (.tuple #[q.s.val, .agg #[.int .i64 1, .slice q.a 0 q.c], .slice na nl nc, .int .i64 0]) ∧ Below U.heap.size U w') := fun U hU => by
      have hT := KT.out U (bY.trans (hU.mono bY.size))
      refine (rebuild_ok 3 2 (some ⟨w.heap.size, 0, none⟩) 1 1 [(0, 0)] 1 (some ⟨Y.heap.size, 0, none⟩) 2 2 [⟨rB KK, none, 0, 0⟩, ⟨rC KK zs, sa, sl, sc⟩] U (hlab2.below hU) (hRec.below hU) hT.1 hT.2 (by omega) (rbErr_ok cfg_one (by omega) hall)).mono ?_
      rintro e w' ⟨q, na, nc, rfl, h5, -, h7, h8⟩
      have e7 : recDesk 1 ([⟨rB KK, none, 0, 0⟩, ⟨rC KK zs, sa, sl, sc⟩].map RcM.p) = (1, []) := desk_other KK zs _ (Or.inl rfl)
      rw [e7] at h7 ⊢
      have e9 : q.js.length = 0 := by have := congrArg List.length h7; simpa using this
      rw [e9]
      exact ⟨q, na, _, nc, rfl, h8⟩
    clear hRec hall hfB hfC hfE KT
    have hR := HR.out Z (Below.refl _ _)
    clear HR
    have cb2_0 : Z.cell? ⟨w.heap.size + 1, 0, none⟩ = some (.int .i64 3) := (cb2.c 0 (by decide)).1
    have cb2_1 : Z.cell? ⟨w.heap.size + 1, 1, none⟩ = some (.slice (some ⟨w.heap.size, 0, none⟩) 1 1) := (cb2.c 1 (by decide)).1
    have cb2_2 : Z.cell? ⟨w.heap.size + 1, 2, none⟩ = some (.int .i64 2) := (cb2.c 2 (by decide)).1
    have cb2_z := cb2.lt
    go_upto_region 9 with (go_at_call 9; refine hR.mono ?_; rintro e y1 ⟨⟨⟨ia, il, ic, la, ll, lc, da, dl, dc, oa, ol, oc, its, lks, dbs, ovs⟩, ja, jc, js⟩, na, nl, nc, rfl, hJ, hdk, hbare, hc1⟩; simp only [SV.val])
    clear cb2_0 cb2_1 cb2_2 cb2_z
    clear hR
    simp only [] at hJ hdk hbare
    have hR1 := HR1.out
    clear HR1
    obtain ⟨JL, eJL⟩ : ∃ x, x = js.length := ⟨_, rfl⟩
    rw [← eJL] at hJ ⊢
    have HJL : Hid (JL = js.length) := eJL
    clear eJL
    replace cb2 := cb2.below hc1 cb2.lt
    replace rb2 := rb2.below hc1 rb2.lt
    replace bY := bY.trans (hc1.mono bY.size)
    replace hlab2 := hlab2.below hc1
    replace hIn2 := hIn2.below hc1
    obtain ⟨X3, eX3⟩ : ∃ X : World, X = (y1.alloc (.cells #[.slice ia il ic, .slice la ll lc, .slice da dl dc, .slice oa ol oc] 38)).alloc (.cells #[.int .i64 (KK + 1), .slice ja JL jc] 41) := ⟨_, rfl⟩
    have sb : BoxN X3 y1.heap.size 4 [.slice ia il ic, .slice la ll lc, .slice da dl dc, .slice oa ol oc] := by rw [eX3]; have h8 := boxn_new y1 #[.slice ia il ic, .slice la ll lc, .slice da dl dc, .slice oa ol oc] 38 4 rfl; exact h8.below ((Below.refl _ _).alloc (Nat.le_refl _) _) h8.lt
    have db : BoxN X3 (y1.heap.size + 1) 2 [.int .i64 (KK + 1), .slice ja JL jc] := by rw [eX3]; have h8 := boxn_new (y1.alloc (.cells #[.slice ia il ic, .slice la ll lc, .slice da dl dc, .slice oa ol oc] 38)) #[.int .i64 (KK + 1), .slice ja JL jc] 41 2 rfl; simpa using h8
    have bX3 : Below y1.heap.size y1 X3 := by rw [eX3]; exact ((Below.refl _ _).alloc (Nat.le_refl _) _).alloc (by simp) _
    rw [← eX3]
    clear eX3
    replace cb2 := cb2.below bX3 cb2.lt
    replace rb2 := rb2.below bX3 rb2.lt
    replace bY := bY.trans (bX3.mono bY.size)
    replace hlab2 := hlab2.below bX3
    replace hIn2 := hIn2.below bX3
    replace hJ := hJ.below bX3
    have hR2 := hR1 X3 (nT hc1 bX3)
    clear hR1
    have cb2_0 : X3.cell? ⟨w.heap.size + 1, 0, none⟩ = some (.int .i64 3) := (cb2.c 0 (by decide)).1
    have cb2_1 : X3.cell? ⟨w.heap.size + 1, 1, none⟩ = some (.slice (some ⟨w.heap.size, 0, none⟩) 1 1) := (cb2.c 1 (by decide)).1
    have cb2_2 : X3.cell? ⟨w.heap.size + 1, 2, none⟩ = some (.int .i64 2) := (cb2.c 2 (by decide)).1
    have cb2_z := cb2.lt
    go_upto_region 10 with (go_at_call 9; refine hR2.mono ?_; rintro e y2 ⟨⟨⟨ia2, il2, ic2, la2, ll2, lc2, da2, dl2, dc2, oa2, ol2, oc2, its2, lks2, dbs2, ovs2⟩, ja2, jc2, js2⟩, na2, nl2, nc2, rfl, hc2⟩; simp only [SV.val])
    clear cb2_0 cb2_1 cb2_2 cb2_z
    clear hR2
    replace cb2 := cb2.below hc2 cb2.lt
    replace rb2 := rb2.below hc2 rb2.lt
    replace sb := sb.below hc2 sb.lt
    replace db := db.below hc2 db.lt
    replace bY := bY.trans (hc2.mono bY.size)
    replace hlab2 := hlab2.below hc2
    replace hIn2 := hIn2.below hc2
    replace hJ := hJ.below hc2
    obtain ⟨X4, eX4⟩ : ∃ X : World, X = (y2.alloc (.cells #[.slice ia2 il2 ic2, .slice la2 ll2 lc2, .slice da2 dl2 dc2, .slice oa2 ol2 oc2] 38)).alloc (.cells #[.int .i64 1, .slice ja2 0 jc2] 41) := ⟨_, rfl⟩
    have sb2 : BoxN X4 y2.heap.size 4 [.slice ia2 il2 ic2, .slice la2 ll2 lc2, .slice da2 dl2 dc2, .slice oa2 ol2 oc2] := by rw [eX4]; have h8 := boxn_new y2 #[.slice ia2 il2 ic2, .slice la2 ll2 lc2, .slice da2 dl2 dc2, .slice oa2 ol2 oc2] 38 4 rfl; exact h8.below ((Below.refl _ _).alloc (Nat.le_refl _) _) h8.lt
    have db2 : BoxN X4 (y2.heap.size + 1) 2 [.int .i64 1, .slice ja2 0 jc2] := by rw [eX4]; have h8 := boxn_new (y2.alloc (.cells #[.slice ia2 il2 ic2, .slice la2 ll2 lc2, .slice da2 dl2 dc2, .slice oa2 ol2 oc2] 38)) #[.int .i64 1, .slice ja2 0 jc2] 41 2 rfl; simpa using h8
    have bX4 : Below y2.heap.size y2 X4 := by rw [eX4]; exact ((Below.refl _ _).alloc (Nat.le_refl _) _).alloc (by simp) _
    rw [← eX4]
    clear eX4
    replace cb2 := cb2.below bX4 cb2.lt
    replace rb2 := rb2.below bX4 rb2.lt
    replace sb := sb.below bX4 sb.lt
    replace db := db.below bX4 db.lt
    replace bY := bY.trans (bX4.mono bY.size)
    replace hlab2 := hlab2.below bX4
    replace hIn2 := hIn2.below bX4
    replace hJ := hJ.below bX4
    have hCd := deskCheck_any 3 2 (some ⟨w.heap.size, 0, none⟩) 1 1 [(0, 0)] (KK + 1) ja JL jc js X4 hlab2 hJ
    rw [hdk] at hCd
    clear hdk
    have cb2_0 : X4.cell? ⟨w.heap.size + 1, 0, none⟩ = some (.int .i64 3) := (cb2.c 0 (by decide)).1
    have cb2_1 : X4.cell? ⟨w.heap.size + 1, 1, none⟩ = some (.slice (some ⟨w.heap.size, 0, none⟩) 1 1) := (cb2.c 1 (by decide)).1
    have cb2_2 : X4.cell? ⟨w.heap.size + 1, 2, none⟩ = some (.int .i64 2) := (cb2.c 2 (by decide)).1
    have cb2_z := cb2.lt
    have db_0 : X4.cell? ⟨y1.heap.size + 1, 0, none⟩ = some (.int .i64 (KK + 1)) := (db.c 0 (by decide)).1
    have db_1 : X4.cell? ⟨y1.heap.size + 1, 1, none⟩ = some (.slice ja JL jc) := (db.c 1 (by decide)).1
    have db_z := db.lt
    have db2_0 : X4.cell? ⟨y2.heap.size + 1, 0, none⟩ = some (.int .i64 1) := (db2.c 0 (by decide)).1
    have db2_1 : X4.cell? ⟨y2.heap.size + 1, 1, none⟩ = some (.slice ja2 0 jc2) := (db2.c 1 (by decide)).1
    have db2_z := db2.lt
    go_upto_region 12 with (go_at_call 14; refine hCd.mono ?_; rintro e y3 ⟨rfl, hc3⟩)
    clear hCd
    clear cb2_0 cb2_1 cb2_2 cb2_z db_0 db_1 db_z db2_0 db2_1 db2_z
    replace cb2 := cb2.below hc3 cb2.lt
    replace rb2 := rb2.below hc3 rb2.lt
    replace sb := sb.below hc3 sb.lt
    replace db := db.below hc3 db.lt
    replace sb2 := sb2.below hc3 sb2.lt
    replace db2 := db2.below hc3 db2.lt
    replace bY := bY.trans (hc3.mono bY.size)
    replace hlab2 := hlab2.below hc3
    replace hIn2 := hIn2.below hc3
    replace hJ := hJ.below hc3
    by_cases hz : zs = []
    · rw [if_pos hz] at hbare
      have e0 : js = [] := by simpa using hbare
      have e1 : JL = 0 := by rw [HJL.out, e0]; rfl
      have e2 : sl = 0 := by have := hIn2.1; rw [hz] at this; simpa using this.symm
      subst e1 e2
      have db_1 : y3.cell? ⟨y1.heap.size + 1, 1, none⟩ = some (.slice ja 0 jc) := (db.c 1 (by decide)).1
      have db_z := db.lt
      have rb2_7 : y3.cell? ⟨w1.heap.size, 7, none⟩ = some (.slice sa 0 sc) := (rb2.c 7 (by decide)).1
      have rb2_z := rb2.lt
      clear cb2 rb2 sb db sb2 db2 hlab2 hIn2 hJ hbare
      go_wp2
      go_ret
      exact ⟨by simp, bY⟩
    · rw [if_neg hz] at hbare
      obtain ⟨j, e0, hj3, hja⟩ := bare_one hbare
      have e1 : JL = 1 := by rw [HJL.out, e0]; rfl
      have e2 : ((sl : Int) == 0) = false := by
        have h1 : zs.length = sl := hIn2.1
        have h2 : ¬ zs.length = 0 := fun h8 => hz (List.eq_nil_of_length_eq_zero h8)
        simp
        omega
      subst e1
      rw [e0] at hJ
      have hJr := hJ.row
      have hAsk := (hJ.each j (by simp)).2
      obtain ⟨bj, oj, rfl, hbj, hcj⟩ := hJr.2.2.2.2 (by omega)
      have hjc : 1 ≤ jc := hJr.2.1
      have q1 := hcj 0 (by omega) 1 (by decide)
      have q3 := hcj 0 (by omega) 3 (by decide)
      simp only [JbV.cells, List.getD_cons_zero, List.getElem?_cons_zero, List.getElem?_cons_succ, Nat.zero_mul, Nat.add_zero] at q1 q3
      rw [hj3] at q1
      have hal : j.al = sl := by have h1 := hAsk.1; rw [hja] at h1; have h2 := hIn2.1; omega
      have hA : IsInts y3 j.aa sl j.ac zs := by
        have h8 := isInts_of hAsk (by rw [hja]; exact hIn2.2.2.2.1)
        rw [hja, hal] at h8
        exact h8
      rw [hal] at q3
      have HSm : Hid (∀ U, Below y3.heap.size y3 U → Calls Tryd.prog 15 #[.slice j.aa sl j.ac, .slice sa sl sc] U fun e w' => e = .returned (.bool true) ∧ Below U.heap.size U w') := fun U hU => sameInts_rec j.aa sa sl j.ac sc zs U (hA.below hU) (hIn2.below hU)
      clear hA hAsk hJr hcj hbare hJ e0 hj3 hja hal
      have db_1 : y3.cell? ⟨y1.heap.size + 1, 1, none⟩ = some (.slice (some ⟨bj, oj, none⟩) 1 jc) := (db.c 1 (by decide)).1
      have db_z := db.lt
      have rb2_7 : y3.cell? ⟨w1.heap.size, 7, none⟩ = some (.slice sa sl sc) := (rb2.c 7 (by decide)).1
      have rb2_z := rb2.lt
      clear cb2 rb2 sb db sb2 db2 hlab2 hIn2
      go_upto_region 14 with (fail)
      have g1 := fun d os => cell_regrown q1 d os
      have g3 := fun d os => cell_regrown q3 d os
      have gd := fun d os => cell_regrown db_1 d os
      have gr := fun d os => cell_regrown rb2_7 d os
      clear q1 q3 db_1 rb2_7
      refine wp_region_quiet_below (by kernel_rfl) (by kernel_rfl) ?_
      repeat (go_big_quiet_step ((exact Calls.regrown_of (HSm.out _ (below_regrown _ _ _)))))
      refine wpQuiet_nil ?_
      intro _ hw'
      obtain ⟨⟨dq, osq⟩, hw''⟩ := hw'
      subst hw''
      have hb4 := bY.trans ((below_regrown y3 dq osq).mono bY.size)
      go_wp2
      go_ret
      exact ⟨rfl, hb4⟩
end Go.Proofs.YtcfhhjnbkpgpeaaDoor.Rb
