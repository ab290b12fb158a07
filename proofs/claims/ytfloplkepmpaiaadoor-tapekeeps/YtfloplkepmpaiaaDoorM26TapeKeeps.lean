/- Texts of this claim, one behind the other. -/
import Derived.Test.YtfloplkepmpaiaaDoorM21TapeKeeps
import Derived.Test.YtfloplkepmpaiaaDoorM24TapeKeeps
import Derived.Test.YtfloplkepmpaiaaDoorM25TapeKeeps
import Derived.Test.YtfloplkepmpaiaaDoorM20TapeKeeps
import Derived.Deep.RegionWith
/- The law TapeTorn at every argument. -/
namespace Go.Proofs.YtfloplkepmpaiaaDoor
open Go.ChangeShapes Go.WideShapes Go.ChangeAt Go.RowKit
set_option linter.unusedVariables false

theorem pl_pl (r : RcV) : r.pl.pl = r.pl := rfl
theorem map_pl_pl (l : List RcV) : (l.map RcV.pl).map RcV.pl = l.map RcV.pl := by rw [List.map_map]; rfl
/-- Lists whose records are alike, wherever their sites lie. -/
theorem alike {gs ys : List RcV} {j : Nat} (hj : j ≤ ys.length) (h : gs.map RcV.pl = (ys.take j).map RcV.pl) : gs.length = j ∧ ∀ i, i < gs.length → (gs.getD i default).bare = (ys.getD i default).bare := by
  have hl : gs.length = j := by
    have := congrArg List.length h
    simp at this
    omega
  refine ⟨hl, fun i hi => ?_⟩
  have := congrArg (fun l : List RcV => l[i]?) h
  simp only [List.getElem?_map, List.getElem?_take] at this
  have hi' : i < ys.length := by omega
  have hij : i < j := by omega
  simp [hi, hi', hij] at this
  simpa [List.getD, hi, hi', RcV.bare, RcV.pl] using this

theorem cut_same (ta : Option Addr) (tl tc k : Nat) (hk : k ≤ tc) (U : World) : (Instr.sliceAt 29 (.slice ta tl tc) none (some (.int .i64 (k : Int))) (some (.int .i64 (k : Int)))).run Tryd.prog U = .ok (.slice ta k k) U := by
  refine (run_sliceAt_slice (P := Tryd.prog) (w := U) 29 (.slice ta tl tc) none (some (.int .i64 _)) (some (.int .i64 _)) (by kernel_rfl)).trans ?_
  rw [run_slice_hm (P := Tryd.prog) (t := 29) (a := ta) (len := tl) (cap := tc) (w := U) (by kernel_rfl) .i64 .i64 (k : Int) (k : Int) (by omega) (by omega) (by omega)]
  have : (sizeOf (Tryd.prog.elem 29)).run Tryd.prog U = .ok 1 U := by kernel_rfl
  rw [this]
  cases ta <;> simp [sliced, Result.andThen, Addr.add]

theorem tape_build (ta : Option Addr) (k c : Nat) (U : World) : (Instr.build 46 #[(0, .slice ta k c)]).run Tryd.prog U = .ok (.agg #[.slice ta k c, .int .i64 0]) U := by kernel_rfl

/-- What is known behind the two recoveries of a torn tape. -/
structure TornAll (ys gs hs : List RcV) (bs : List Int) (tl k q q2 : Nat) : Prop where
  le : gs.length ≤ ys.length
  same : ∀ i, i < gs.length → (gs.getD i default).bare = (ys.getD i default).bare
  again : hs.length = gs.length
  num : q2 = q
  most : q ≤ k
  full : decide (gs.length = ys.length) = decide (k = tl)
theorem torn_all {S : Int} {L : List (Int × Int)} {P : Int} {ys gs hs : List RcV} {tl k q q2 : Nat} (hg : ∀ y ∈ ys, recFault S L P y = 0 ∧ y.sites.length = y.sl) (htl : (tapeOf ys).length = tl) (hk : k ≤ tl)
    (h1 : AllOf S L P ((tapeOf ys).take k) gs q) (h2 : AllOf S L P (((tapeOf ys).take k).take q) hs q2) : TornAll ys gs hs (((tapeOf ys).take k).take q) tl k q q2 := by
  obtain ⟨j, hT⟩ := torn_any ys hg k (by omega)
  have e1 := h1.1
  have e2 := h1.2
  rw [hT.recs, map_pl_pl] at e1
  rw [hT.num] at e2
  obtain ⟨hl, hsame⟩ := alike hT.le e1
  have hb : ((tapeOf ys).take k).take q = tapeOf (ys.take j) := by rw [← e2]; exact hT.bytes
  have hgj : ∀ y ∈ ys.take j, recFault S L P y = 0 ∧ y.sites.length = y.sl := fun y hy => hg y (List.mem_of_mem_take hy)
  have hw := whole_full (s := S) (ls := L) (p := P) (ys.take j) hgj
  have e3 := h2.1
  have e4 := h2.2
  rw [hb, hw] at e3 e4
  simp only [map_pl_pl] at e3 e4
  have hl2 : hs.length = j := by
    have := congrArg List.length e3
    simp at this
    have := hT.le
    omega
  refine ⟨by rw [hl]; exact hT.le, hsame, by omega, by omega, by have := hT.at_most; omega, ?_⟩
  rw [Bool.eq_iff_iff]
  simp only [decide_eq_true_eq]
  constructor
  · intro e
    have : ys.take j = ys := List.take_of_length_le (by omega)
    have hm := hT.at_most
    rw [this] at hm
    omega
  · intro e
    have h5 := hT.least ys.length (by rw [List.take_length]; omega) (Nat.le_refl _)
    have h6 := hT.le
    omega

set_option maxRecDepth 100000 in
set_option maxHeartbeats 4000000 in
theorem tapeTorn_walk (s : Int) (a : Option Addr) (len cap : Nat) (zs : List Int) (aa : Option Addr) (alen acap : Nat) (rs : List RV) (at' : Int) (w : World) (hs : (Lit.int .i64 s).wf = true) (h : IsInts w a len cap zs) (hx : IsRaws w aa alen acap rs) (hat : (Lit.int .i64 at').wf = true) (hm : HasAt w 2 rHas) (hwd : WidsAt w) (ht : TopsAt w) :
    Calls Tryd.prog 5 #[.int .i64 s, .slice a len cap, .slice aa alen acap, .int .i64 at'] w fun e w' => e = .returned (.bool true) ∧ Below w.heap.size w w' := by
  have hat' := i64_bd hat
  have hs' := i64_bd hs
  have hgT : 3 < w.heap.size := World.block_lt_of_cell? w _ ht.1
  have hgM : 2 < w.heap.size := hm.lt (by decide)
  have hgW : 1 < w.heap.size := hwd.lt
  have hCfg := fun w' h' => cfg_good s a len cap zs w' hs' h'
  go_enter Tryd.func5, Tryd.ntmps5
  go_upto_region 1 with (fail)
  go_upto_region 2 with (go_at_call 8; refine (hCfg _ h).mono ?_; rintro e w1 ⟨S, P, g, n, cp, L, rfl, hC1, hb1⟩)
  obtain ⟨W, hW⟩ : ∃ W : World, W = w1.alloc (.cells #[.int .i64 S, .slice (some ⟨g, 0, none⟩) n cp, .int .i64 P] 27) := ⟨_, rfl⟩
  have zW : w1.heap.size < W.heap.size := by rw [hW]; simp
  have c0 : W.cell? ⟨w1.heap.size, 0, none⟩ = some (.int .i64 S) := by rw [hW]; go_simp
  have c1 : W.cell? ⟨w1.heap.size, 1, none⟩ = some (.slice (some ⟨g, 0, none⟩) n cp) := by rw [hW]; go_simp
  have c2 : W.cell? ⟨w1.heap.size, 2, none⟩ = some (.int .i64 P) := by rw [hW]; go_simp
  have hBW : Below w1.heap.size w1 W := by rw [hW]; exact (Below.refl _ _).alloc (Nat.le_refl _) _
  rw [← hW]
  clear hW
  have hCW := hC1.below hBW
  have hBw : Below w.heap.size w W := hb1.trans (hBW.mono hb1.size)
  have hok := hCW.ok
  have KC : Hid (∀ U : World, Below W.heap.size W U → U.cell? ⟨w1.heap.size, 0, none⟩ = some (.int .i64 S) ∧ U.cell? ⟨w1.heap.size, 1, none⟩ = some (.slice (some ⟨g, 0, none⟩) n cp) ∧ U.cell? ⟨w1.heap.size, 2, none⟩ = some (.int .i64 P)) := by
    intro U hU
    exact ⟨(hU.cell (p := ⟨w1.heap.size, 0, none⟩) (by show w1.heap.size < _; omega)).trans c0, (hU.cell (p := ⟨w1.heap.size, 1, none⟩) (by show w1.heap.size < _; omega)).trans c1, (hU.cell (p := ⟨w1.heap.size, 2, none⟩) (by show w1.heap.size < _; omega)).trans c2⟩
  have KB : Hid (∀ U : World, Below W.heap.size W U → Below w.heap.size w U) := fun U hU => hBw.trans (hU.mono hBw.size)
  have KS : Hid (∀ U : World, Below W.heap.size W U → IsLabs U (some ⟨g, 0, none⟩) n cp L ∧ HasAt U 2 rHas ∧ TopsAt U ∧ WidsAt U) := fun U hU => ⟨hCW.labs.below hU, hm.below (KB.out U hU) hgM, ht.below (KB.out U hU) hgT, hwd.below (KB.out U hU) hgW⟩
  have KR : Hid (∀ U : World, Below W.heap.size W U → IsRaws U aa alen acap rs) := fun U hU => hx.below (KB.out U hU)
  have hRecs := fun w' h' => records_any S P (some ⟨g, 0, none⟩) n cp L aa alen acap rs 20 w' hok hCW.s1 hCW.s3 h' (by omega)
  go_upto_region 3 with (go_at_call 13; refine (hRecs _ (KR.out _ (Below.refl _ _))).mono ?_; rintro e w2 ⟨ao, cpo, ys, rfl, hR2, hg2, h25, hb2⟩)
  clear c0 c1 c2 hRecs
  obtain ⟨c0, c1, c2⟩ := KC.out _ hb2
  obtain ⟨s1, s2, s3, s4⟩ := KS.out _ hb2
  go_upto_region 4 with (go_at_call 14; refine (taped_any S P (some ⟨g, 0, none⟩) n cp L ao ys.length cpo ys _ s1 hR2 hg2 h25 s2 s3 s4).mono ?_; rintro e w3 ⟨ta, tl, tc, rfl, hI3, htl, hnew3, hb3⟩)
  obtain ⟨X, hX⟩ : ∃ X : World, X = w3.alloc (.cells #[.slice ta tl tc, .int .i64 0] 46) := ⟨_, rfl⟩
  have b3X : Below w3.heap.size w3 X := by rw [hX]; exact (Below.refl _ _).alloc (Nat.le_refl _) _
  have xb : BoxN X w3.heap.size 2 [.slice ta tl tc, .int .i64 0] := by rw [hX]; simpa using boxn_new w3 #[.slice ta tl tc, .int .i64 0] 46 2 rfl
  rw [← hX]
  clear hX c0 c1 c2 s1 s2 s3 s4
  have bX : Below W.heap.size W X := hb2.trans ((hb3.trans (b3X.mono hb3.size)).mono hb2.size)
  have hIX := hI3.below b3X
  have hRX := hR2.below (hb3.trans (b3X.mono hb3.size))
  have hlen : (tapeOf ys).length = tl := hIX.1
  have hg : ∀ y ∈ ys, recFault S L P y = 0 ∧ y.sites.length = y.sl := fun y hy => ⟨hg2 y hy, (hRX.2.2.2.1 y hy).1⟩
  have hTA : Hid (∀ (gs hs : List RcV) (k q q2 : Nat), k ≤ tl → AllOf S L P ((tapeOf ys).take k) gs q → AllOf S L P (((tapeOf ys).take k).take q) hs q2 → TornAll ys gs hs (((tapeOf ys).take k).take q) tl k q q2) := fun gs hs k q q2 hk h1 h2 => torn_all hg hlen hk h1 h2
  clear hlen hg
  obtain ⟨tb, etb⟩ : ∃ tb, tb = tapeOf ys := ⟨_, rfl⟩
  rw [← etb] at hIX hTA
  clear etb hI3
  have hpj := fun w' => picked_any at' ((tl : Int) + 1) w' hat' (by omega) (by omega)
  have pj := pk_bd at' ((tl : Int) + 1) (by omega)
  obtain ⟨k, ej⟩ : ∃ j : Nat, pk at' ((tl : Int) + 1) = j := ⟨(pk at' ((tl : Int) + 1)).toNat, by omega⟩
  rw [ej] at hpj pj
  clear ej
  have hk : k ≤ tl := by omega
  have tlc : tl ≤ tc := hIX.2.1
  have hbd := fun U => tape_build ta k k U
  have hsl := fun U => cut_same ta tl tc k (by omega) U
  have xlt := xb.lt
  have m0 : X.cell? ⟨w3.heap.size, 0, none⟩ = some (.slice ta tl tc) := (xb.c 0 (by omega)).1
  go_upto_region 5 with (go_at_call 12; refine (hpj _).mono ?_; rintro e v ⟨rfl, hv⟩; rw [hv]; clear hv v)
  clear hpj pj
  have hKk := hIX.take k k hk (Nat.le_refl _) (by omega)
  have hmay : mayT k 0 = true := by simp [mayT]; omega
  have HRec : Hid (∀ U, Below X.heap.size X U → Calls Tryd.prog 18 #[.agg #[.int .i64 S, .slice (some ⟨g, 0, none⟩) n cp, .int .i64 P], .agg #[.slice ta k k, .int .i64 0]] U fun e w' => ∃ (ao : Option Addr) (cp : Nat) (gs : List RcV) (q : Nat) (ua : Option Addr) (z : Int),
      e = .returned (.tuple #[.slice ao gs.length cp, .agg #[.slice ua q q, .int .i64 z], .int .i64 0]) ∧ IsRecs w' ao gs.length cp gs ∧ AllOf S L P (tb.take k) gs q ∧ q ≤ k ∧ IsB w' ua q q ((tb.take k).take q) ∧ z = (if (q : Int) < 0 then (q : Int) else 0) ∧ (∀ b off, ua = some ⟨b, off, none⟩ → U.heap.size ≤ b) ∧ (∀ b off, ao = some ⟨b, off, none⟩ → U.heap.size ≤ b) ∧ (∀ y ∈ gs, ∀ b off, y.sa = some ⟨b, off, none⟩ → U.heap.size ≤ b) ∧ Below U.heap.size U w') := fun U hU => by
    have hWU := bX.trans (hU.mono bX.size)
    obtain ⟨s1, s2, s3, s4⟩ := KS.out _ hWU
    exact recover_ok S P (some ⟨g, 0, none⟩) n cp L ta k k (tb.take k) 0 U s1 (hKk.below hU) hmay hok s2 s3 s4
  have KX : Hid (∀ U : World, Below X.heap.size X U → (U.cell? ⟨w1.heap.size, 0, none⟩ = some (.int .i64 S) ∧ U.cell? ⟨w1.heap.size, 1, none⟩ = some (.slice (some ⟨g, 0, none⟩) n cp) ∧ U.cell? ⟨w1.heap.size, 2, none⟩ = some (.int .i64 P)) ∧ U.cell? ⟨w3.heap.size, 0, none⟩ = some (.slice ta tl tc)) := fun U hU => ⟨KC.out _ (bX.trans (hU.mono bX.size)), (hU.cell (p := ⟨w3.heap.size, 0, none⟩) xlt).trans m0⟩
  have hD : Below X.heap.size X X.drew := (Below.refl _ _).drew
  clear hKk hmay hg2 h25 hnew3 hb3 b3X hb2 hC1 hBW hb1 hCfg hBw hCW zW
  go_cut [14, 15, 16] (fun s14 s15 s16 wc => ∃ (ga : Option Addr) (gc : Nat) (gs : List RcV) (q qb : Nat) (ua : Option Addr), s14 = .slice ga gs.length gc ∧ s15 = .pointer (some ⟨qb, 0, none⟩) ∧ s16 = .int .i64 0 ∧ BoxN wc qb 2 [.slice ua q q, .int .i64 0] ∧ IsRecs wc ga gs.length gc gs ∧ AllOf S L P (tb.take k) gs q ∧ q ≤ k ∧ IsB wc ua q q ((tb.take k).take q) ∧ Below X.heap.size X wc)
  case first =>
    clear hTA hRX hR2
    rename_i K0 hK0 J0 K1 hJ0 hM0
    clear hK0
    go_region_held3 (fun U => (U.cell? ⟨w1.heap.size, 0, none⟩ = some (.int .i64 S) ∧ U.cell? ⟨w1.heap.size, 1, none⟩ = some (.slice (some ⟨g, 0, none⟩) n cp) ∧ U.cell? ⟨w1.heap.size, 2, none⟩ = some (.int .i64 P)) ∧ U.cell? ⟨w3.heap.size, 0, none⟩ = some (.slice ta tl tc))
      (exact KX.out _ (by (with_reducible repeat (first | exact hu3 | exact hD | exact Below.refl _ _ | refine bD ?_ | refine bA ?_ _ | refine bS ?_ (by omega) _)); done))
      ((go_at_call 18; refine (HRec.out _ (by (with_reducible repeat (first | exact hD | exact Below.refl _ _ | refine bD ?_ | refine bA ?_ _ | refine bS ?_ (by omega) _)); done)).mono ?_; rintro e u3 ⟨ga, gc, gs, q, ua, z, rfl, hRg, hAl, hqk, hIu, hz, hnewU, hnewA, hnewS, hb3'⟩; obtain rfl : z = 0 := (by rw [hz, if_neg (by omega)]); clear hz; have HAl : Hid (AllOf S L P (tb.take k) gs q) := hAl; have HIu : Hid (IsB u3 ua q q ((tb.take k).take q)) := hIu; have HRg : Hid (IsRecs u3 ga gs.length gc gs) := hRg; have HnU : Hid (∀ b off, ua = some ⟨b, off, none⟩ → _ ≤ b) := hnewU; have HnA : Hid (∀ b off, ga = some ⟨b, off, none⟩ → _ ≤ b) := hnewA; have HnS : Hid (∀ y ∈ gs, ∀ b off, y.sa = some ⟨b, off, none⟩ → _ ≤ b) := hnewS; clear hAl hIu hRg hnewU hnewA hnewS; have hu3 : Below X.heap.size X u3 := bT (by (with_reducible repeat (first | exact hD | exact Below.refl _ _ | refine bD ?_ | refine bA ?_ _ | refine bS ?_ (by omega) _)); done) hb3'; have z3 : X.heap.size ≤ u3.heap.size := hu3.size; (first | (have bx3 : BoxN u3 X.heap.size 2 [.slice none 0 0, .int .i64 0] := (boxn_new X.drew #[.slice none 0 0, .int .i64 0] 46 2 rfl).below hb3' (by simp); have hneU : Hid (∀ b off, ua = some ⟨b, off, none⟩ → b ≠ X.heap.size) := fun b off e => Nat.ne_of_gt (Nat.lt_of_lt_of_le (by simp) (HnU.out b off e)); have hneA : Hid (∀ b off, ga = some ⟨b, off, none⟩ → b ≠ X.heap.size) := fun b off e => Nat.ne_of_gt (Nat.lt_of_lt_of_le (by simp) (HnA.out b off e)); have hneS : Hid (∀ y ∈ gs, ∀ b off, y.sa = some ⟨b, off, none⟩ → b ≠ X.heap.size) := fun y hy b off e => Nat.ne_of_gt (Nat.lt_of_lt_of_le (by simp) (HnS.out y hy b off e)); have t0 : _ = some (Value.slice none 0 0) := (bx3.c 0 (by omega)).1; have g0 := (bx3.c 0 (by omega)).2; have t1 : _ = some (Value.int .i64 0) := (bx3.c 1 (by omega)).1; have g1 := (bx3.c 1 (by omega)).2) | (have bx3 : BoxN u3 X.heap.size 2 [.slice none 0 0, .int .i64 0] := (boxn_new X #[.slice none 0 0, .int .i64 0] 46 2 rfl).below hb3' (by simp); have hneU : Hid (∀ b off, ua = some ⟨b, off, none⟩ → b ≠ X.heap.size) := fun b off e => Nat.ne_of_gt (Nat.lt_of_lt_of_le (by simp) (HnU.out b off e)); have hneA : Hid (∀ b off, ga = some ⟨b, off, none⟩ → b ≠ X.heap.size) := fun b off e => Nat.ne_of_gt (Nat.lt_of_lt_of_le (by simp) (HnA.out b off e)); have hneS : Hid (∀ y ∈ gs, ∀ b off, y.sa = some ⟨b, off, none⟩ → b ≠ X.heap.size) := fun y hy b off e => Nat.ne_of_gt (Nat.lt_of_lt_of_le (by simp) (HnS.out y hy b off e)); have t0 : _ = some (Value.slice none 0 0) := (bx3.c 0 (by omega)).1; have g0 := (bx3.c 0 (by omega)).2; have t1 : _ = some (Value.int .i64 0) := (bx3.c 1 (by omega)).1; have g1 := (bx3.c 1 (by omega)).2) | skip)))
    all_goals
      first
        | (have bxF := (bx3.set 0 (by omega) (.slice ua q q)).set 1 (by omega) (.int .i64 0))
        | (have bxF : BoxN _ u3.heap.size 2 [.slice ua q q, .int .i64 0] := boxn_new u3 #[.slice ua q q, .int .i64 0] 46 2 rfl)
      go_wp2_with fail
      go_meet
      case rel => exact ⟨ga, gc, gs, q, _, ua, rfl, rfl, rfl, bxF, (by (with_reducible repeat (first | exact HRg.out | exact hneA.out | exact hneS.out | refine isRecs_set ?_ ?_ ?_ | refine IsRecs.below ?_ ((Below.refl _ _).alloc (Nat.le_refl _) _))); done), HAl.out, hqk, (by (with_reducible repeat (first | exact HIu.out | exact hneU.out | refine IsB.set ?_ _ _ ?_ | refine isB_alloc ?_ _)); done), (by (with_reducible repeat (first | exact hu3 | exact hD | exact Below.refl _ _ | refine bD ?_ | refine bA ?_ _ | refine bS ?_ (by omega) _)); done)⟩
  case rest =>
    obtain ⟨ga, gc, gs, q, qb, ua, rfl, rfl, rfl, bxU, hRg, hAl, hqk, hIu, bF⟩ := hcut
    obtain ⟨Y, eY⟩ : ∃ Y, Y = wc := ⟨_, rfl⟩
    rw [← eY] at bxU hRg hIu bF ⊢
    clear eY
    have bY : Below W.heap.size W Y := bX.trans (bF.mono bX.size)
    have hm2 : mayT q 0 = true := by simp [mayT]; omega
    have hRec2 := fun U h1 h2 h3 h4 h5 => recover_ok S P (some ⟨g, 0, none⟩) n cp L ua q q ((tb.take k).take q) 0 U h1 h2 hm2 hok h3 h4 h5
    have hRec3 := fun U => recover_state S P (some ⟨g, 0, none⟩) n cp none 0 0 1 U (by decide) (by decide)
    obtain ⟨c0, c1, c2⟩ := KC.out _ bY
    obtain ⟨s1, s2, s3, s4⟩ := KS.out _ bY
    have u0 : Y.cell? ⟨qb, 0, none⟩ = some (.slice ua q q) := (bxU.c 0 (by omega)).1
    have u1 : Y.cell? ⟨qb, 1, none⟩ = some (.int .i64 0) := (bxU.c 1 (by omega)).1
    have qlt := bxU.lt
    go_upto_region 7 with (go_at_call 18; refine (hRec2 _ s1 hIu s2 s3 s4).mono ?_; rintro e w6 ⟨ha, hc, hs2, q2, va, z2, rfl, hRh, hAl2, hq2, hIv, hz2, hnV, hnA, hnS, hb6⟩; clear hnV hnA hnS)
    obtain rfl : z2 = 0 := by rw [hz2, if_neg (by omega)]
    obtain ⟨V6, hV6⟩ : ∃ V : World, V = w6.alloc (.cells #[.slice va q2 q2, .int .i64 0] 46) := ⟨_, rfl⟩
    have b6V : Below w6.heap.size w6 V6 := by rw [hV6]; exact (Below.refl _ _).alloc (Nat.le_refl _) _
    have vb : BoxN V6 w6.heap.size 2 [.slice va q2 q2, .int .i64 0] := by rw [hV6]; simpa using boxn_new w6 #[.slice va q2 q2, .int .i64 0] 46 2 rfl
    rw [← hV6]
    clear hV6 c0 c1 c2 u0 u1 s1 s2 s3 s4 hRec2 hz2
    have bYV : Below Y.heap.size Y V6 := hb6.trans (b6V.mono hb6.size)
    have bV6 : Below W.heap.size W V6 := bY.trans (bYV.mono bY.size)
    obtain ⟨c0, c1, c2⟩ := KC.out _ bV6
    go_upto_region 8 with (go_at_call 18; refine (hRec3 _).mono ?_; rintro e w7 ⟨rfl, hb7⟩)
    obtain ⟨V7, hV7⟩ : ∃ V : World, V = w7.alloc (.cells #[.slice none 0 0, .int .i64 0] 46) := ⟨_, rfl⟩
    have b7V : Below w7.heap.size w7 V7 := by rw [hV7]; exact (Below.refl _ _).alloc (Nat.le_refl _) _
    rw [← hV7]
    clear hV7 c0 c1 c2 hRec3
    have b67 : Below V6.heap.size V6 V7 := hb7.trans (b7V.mono hb7.size)
    have bY7 : Below Y.heap.size Y V7 := bYV.trans (b67.mono bYV.size)
    have bX7 : Below X.heap.size X V7 := bF.trans (bY7.mono bF.size)
    have bW7 : Below W.heap.size W V7 := bX.trans (bX7.mono bX.size)
    obtain ⟨t1, t2, t3, t4, t5, t6⟩ := hTA.out gs hs2 k q q2 hk hAl hAl2
    subst t4
    rw [List.take_take, Nat.min_self] at hIv
    have hRg7 := hRg.below bY7
    have hRy7 := hRX.below bX7
    have hIu7 := hIu.below bY7
    have hIv7 := hIv.below (b6V.trans (b67.mono b6V.size))
    have u0 : V7.cell? ⟨qb, 0, none⟩ = some (.slice ua q2 q2) := ((bxU.below bY7 qlt).c 0 (by omega)).1
    have v0 : V7.cell? ⟨w6.heap.size, 0, none⟩ = some (.slice va q2 q2) := ((vb.below b67 vb.lt).c 0 (by omega)).1
    have m7 : V7.cell? ⟨w3.heap.size, 0, none⟩ = some (.slice ta tl tc) := (bX7.cell (p := ⟨w3.heap.size, 0, none⟩) xlt).trans m0
    have T3 : Hid ((hs2.length : Int) = (gs.length : Int)) := by show _ = _; omega
    have T5 : Hid ((q2 : Int) ≤ (k : Int)) := by show (q2 : Int) ≤ (k : Int); omega
    have hBg := fun U h1 h2 => begins_any ga ao gs.length ys.length gc cpo gs ys U h1 h2 t1 t2
    clear t2 hTA t3
    have hcase : Hid ((gs.length : Int) = (ys.length : Int) ∧ (k : Int) = (tl : Int) ∧ ((gs.length : Int) == (ys.length : Int)) = true ∧ ((k : Int) == (tl : Int)) = true) ∨ Hid (¬ (gs.length : Int) = (ys.length : Int) ∧ ¬ (k : Int) = (tl : Int) ∧ ((gs.length : Int) == (ys.length : Int)) = false ∧ ((k : Int) == (tl : Int)) = false) := by
      by_cases hfull : gs.length = ys.length
      · rw [decide_eq_true hfull] at t6
        have hkt : k = tl := of_decide_eq_true t6.symm
        exact .inl (show _ ∧ _ from ⟨by omega, by omega, by simp [hfull], by simp [hkt]⟩)
      · rw [decide_eq_false hfull] at t6
        have hkt : ¬ k = tl := of_decide_eq_false t6.symm
        exact .inr (show _ ∧ _ from ⟨by omega, by omega, by simp; omega, by simp; omega⟩)
    clear t6 t1 t5 hk hAl hAl2 hRg hIu hIv hRh
    have zq : qb < V7.heap.size := Nat.lt_of_lt_of_le qlt bY7.size
    have z6 : w6.heap.size < V7.heap.size := Nat.lt_of_lt_of_le vb.lt b67.size
    have zx : w3.heap.size < V7.heap.size := Nat.lt_of_lt_of_le xlt bX7.size
    rcases hcase with HF | HF
    · skip
      go_wp2_with (go_at_call 19; refine (hBg _ hRg7 hRy7).mono ?_; rintro e w8 ⟨rfl, hb8⟩; have y0 := (hb8.cell (p := ⟨qb, 0, none⟩) zq).trans u0; have y1 := (hb8.cell (p := ⟨w6.heap.size, 0, none⟩) z6).trans v0; have y2 := (hb8.cell (p := ⟨w3.heap.size, 0, none⟩) zx).trans m7; have r1 := run_string (hIu7.below hb8); have r2 := run_string (hIv7.below hb8); have t3 := T3.out; have t5 := T5.out; obtain ⟨f1, f2, f3, f4⟩ := HF.out)
      go_ret
      exact ⟨by first | rfl | simp, KB.out _ (bW7.trans (hb8.mono bW7.size))⟩
    · skip
      go_wp2_with (go_at_call 19; refine (hBg _ hRg7 hRy7).mono ?_; rintro e w8 ⟨rfl, hb8⟩; have y0 := (hb8.cell (p := ⟨qb, 0, none⟩) zq).trans u0; have y1 := (hb8.cell (p := ⟨w6.heap.size, 0, none⟩) z6).trans v0; have y2 := (hb8.cell (p := ⟨w3.heap.size, 0, none⟩) zx).trans m7; have r1 := run_string (hIu7.below hb8); have r2 := run_string (hIv7.below hb8); have t3 := T3.out; have t5 := T5.out; obtain ⟨f1, f2, f3, f4⟩ := HF.out)
      go_ret
      exact ⟨by first | rfl | simp, KB.out _ (bW7.trans (hb8.mono bW7.size))⟩
end Go.Proofs.YtfloplkepmpaiaaDoor
/- The law TapeKeeps at every argument. -/
namespace Go.Proofs.YtfloplkepmpaiaaDoor
open Go.ChangeShapes Go.WideShapes Go.ChangeAt Go.RowKit
set_option linter.unusedVariables false

theorem IsRecs.take {w : World} {a : Option Addr} {len cap : Nat} {ys : List RcV} (h : IsRecs w a len cap ys) (k : Nat) (hk : k ≤ len) : IsRecs w a k k (ys.take k) := by
  obtain ⟨h1, h2, h3, h4, h5⟩ := h
  refine ⟨by simp; omega, Nat.le_refl _, by omega, fun y hy => h4 y (List.mem_of_mem_take hy), fun hp => ?_⟩
  obtain ⟨b, off, e, hl, hc⟩ := h5 (by omega)
  refine ⟨b, off, e, hl, fun i hi j hj => ?_⟩
  rw [hc i (by omega) j hj]
  simp [List.getD, hi]
theorem cut_recs (ta : Option Addr) (tl tc k : Nat) (hk : k ≤ tc) (U : World) : (Instr.sliceAt 43 (.slice ta tl tc) none (some (.int .i64 (k : Int))) (some (.int .i64 (k : Int)))).run Tryd.prog U = .ok (.slice ta k k) U := by
  refine (run_sliceAt_slice (P := Tryd.prog) (w := U) 43 (.slice ta tl tc) none (some (.int .i64 _)) (some (.int .i64 _)) (by kernel_rfl)).trans ?_
  rw [run_slice_hm (P := Tryd.prog) (t := 43) (a := ta) (len := tl) (cap := tc) (w := U) (by kernel_rfl) .i64 .i64 (k : Int) (k : Int) (by omega) (by omega) (by omega)]
  have : (sizeOf (Tryd.prog.elem 43)).run Tryd.prog U = .ok 8 U := by kernel_rfl
  rw [this]
  cases ta <;> simp [sliced, Result.andThen, Addr.add]

theorem tapeOf_len {S : Int} {L : List (Int × Int)} {P : Int} : ∀ (ys : List RcV), (∀ y ∈ ys, recFault S L P y = 0 ∧ y.sites.length = y.sl) → (tapeOf ys).length ≤ 25 * ys.length := by
  intro ys
  induction ys with
  | nil => intro _; simp [tapeOf]
  | cons y l ih =>
    intro hg
    have h1 := ih (fun z hz => hg z (by simp [hz]))
    have h2 := recBytes_bd (hg y (by simp)).1 (hg y (by simp)).2
    rw [tapeOf_cons]
    simp
    omega
structure KeepAll (ys gs : List RcV) (k n0 q : Nat) : Prop where
  le : gs.length ≤ ys.length
  same : ∀ i, i < gs.length → (gs.getD i default).bare = (ys.getD i default).bare
  least : k ≤ gs.length
  bytes : n0 ≤ q
  some' : k = 0 ∨ 0 < n0
theorem keep_all {S : Int} {L : List (Int × Int)} {P : Int} {ys gs : List RcV} {k n0 N q : Nat} (hg : ∀ y ∈ ys, recFault S L P y = 0 ∧ y.sites.length = y.sl) (hk : k ≤ ys.length) (hn0 : n0 = (tapeOf (ys.take k)).length) (hN : N ≤ (tapeOf ys).length) (hnN : n0 ≤ N)
    (h1 : AllOf S L P ((tapeOf ys).take N) gs q) : KeepAll ys gs k n0 q := by
  obtain ⟨j, hT⟩ := torn_any ys hg N hN
  have e1 := h1.1
  have e2 := h1.2
  rw [hT.recs, map_pl_pl] at e1
  rw [hT.num] at e2
  obtain ⟨hl, hsame⟩ := alike hT.le e1
  have hkj := hT.least k (by omega) hk
  refine ⟨by rw [hl]; exact hT.le, hsame, by omega, ?_, ?_⟩
  · have := tapeOf_take_le ys k j hkj
    omega
  · cases k with
    | zero => exact .inl rfl
    | succ k =>
      right
      cases ys with
      | nil => simp at hk
      | cons y l =>
        rw [hn0, List.take_succ_cons, tapeOf_cons]
        simp

set_option maxRecDepth 100000 in
set_option maxHeartbeats 8000000 in
theorem tapeKeeps_walk (s : Int) (a : Option Addr) (len cap : Nat) (zs : List Int) (aa : Option Addr) (alen acap : Nat) (rs : List RV) (at' keep : Int) (w : World) (hs : (Lit.int .i64 s).wf = true) (h : IsInts w a len cap zs) (hx : IsRaws w aa alen acap rs) (hat : (Lit.int .i64 at').wf = true) (hke : (Lit.int .i64 keep).wf = true) (hm : HasAt w 2 rHas) (hwd : WidsAt w) (ht : TopsAt w) :
    Calls Tryd.prog 4 #[.int .i64 s, .slice a len cap, .slice aa alen acap, .int .i64 at', .int .i64 keep] w fun e w' => e = .returned (.bool true) ∧ Below w.heap.size w w' := by
  have hat' := i64_bd hat
  have hke' := i64_bd hke
  have hs' := i64_bd hs
  have hgT : 3 < w.heap.size := World.block_lt_of_cell? w _ ht.1
  have hgM : 2 < w.heap.size := hm.lt (by decide)
  have hgW : 1 < w.heap.size := hwd.lt
  have hCfg := fun w' h' => cfg_good s a len cap zs w' hs' h'
  go_enter Tryd.func4, Tryd.ntmps4
  go_upto_region 1 with (fail)
  go_upto_region 2 with (go_at_call 8; refine (hCfg _ h).mono ?_; rintro e w1 ⟨S, P, g, n, cp, L, rfl, hC1, hb1⟩)
  obtain ⟨W, hW⟩ : ∃ W : World, W = w1.alloc (.cells #[.int .i64 S, .slice (some ⟨g, 0, none⟩) n cp, .int .i64 P] 27) := ⟨_, rfl⟩
  have zW : w1.heap.size < W.heap.size := by rw [hW]; simp
  have c0 : W.cell? ⟨w1.heap.size, 0, none⟩ = some (.int .i64 S) := by rw [hW]; go_simp
  have c1 : W.cell? ⟨w1.heap.size, 1, none⟩ = some (.slice (some ⟨g, 0, none⟩) n cp) := by rw [hW]; go_simp
  have c2 : W.cell? ⟨w1.heap.size, 2, none⟩ = some (.int .i64 P) := by rw [hW]; go_simp
  have hBW : Below w1.heap.size w1 W := by rw [hW]; exact (Below.refl _ _).alloc (Nat.le_refl _) _
  rw [← hW]
  clear hW
  have hCW := hC1.below hBW
  have hBw : Below w.heap.size w W := hb1.trans (hBW.mono hb1.size)
  have hok := hCW.ok
  have KC : Hid (∀ U : World, Below W.heap.size W U → U.cell? ⟨w1.heap.size, 0, none⟩ = some (.int .i64 S) ∧ U.cell? ⟨w1.heap.size, 1, none⟩ = some (.slice (some ⟨g, 0, none⟩) n cp) ∧ U.cell? ⟨w1.heap.size, 2, none⟩ = some (.int .i64 P)) := by
    intro U hU
    exact ⟨(hU.cell (p := ⟨w1.heap.size, 0, none⟩) (by show w1.heap.size < _; omega)).trans c0, (hU.cell (p := ⟨w1.heap.size, 1, none⟩) (by show w1.heap.size < _; omega)).trans c1, (hU.cell (p := ⟨w1.heap.size, 2, none⟩) (by show w1.heap.size < _; omega)).trans c2⟩
  have KB : Hid (∀ U : World, Below W.heap.size W U → Below w.heap.size w U) := fun U hU => hBw.trans (hU.mono hBw.size)
  have KS : Hid (∀ U : World, Below W.heap.size W U → IsLabs U (some ⟨g, 0, none⟩) n cp L ∧ HasAt U 2 rHas ∧ TopsAt U ∧ WidsAt U) := fun U hU => ⟨hCW.labs.below hU, hm.below (KB.out U hU) hgM, ht.below (KB.out U hU) hgT, hwd.below (KB.out U hU) hgW⟩
  have KR : Hid (∀ U : World, Below W.heap.size W U → IsRaws U aa alen acap rs) := fun U hU => hx.below (KB.out U hU)
  have hRecs := fun w' h' => records_any S P (some ⟨g, 0, none⟩) n cp L aa alen acap rs 25 w' hok hCW.s1 hCW.s3 h' (by omega)
  go_upto_region 3 with (go_at_call 13; refine (hRecs _ (KR.out _ (Below.refl _ _))).mono ?_; rintro e X ⟨ao, cpo, ys, rfl, hRX, hg2, h25, bX⟩)
  have hGy : Hid (∀ y ∈ ys, recFault S L P y = 0 ∧ y.sites.length = y.sl) := fun y hy => ⟨hg2 y hy, (hRX.2.2.2.1 y hy).1⟩
  clear c0 c1 c2 hRecs hg2
  have hpj := fun w' => picked_any at' ((ys.length : Int) + 1) w' hat' (by omega) (by omega)
  have pj := pk_bd at' ((ys.length : Int) + 1) (by omega)
  obtain ⟨k, ej⟩ : ∃ j : Nat, pk at' ((ys.length : Int) + 1) = j := ⟨(pk at' ((ys.length : Int) + 1)).toNat, by omega⟩
  rw [ej] at hpj pj
  clear ej
  have hk : k ≤ ys.length := by omega
  go_upto_region 4 with (go_at_call 12; refine (hpj _).mono ?_; rintro e v ⟨rfl, hv⟩; rw [hv]; clear hv v)
  clear hpj pj hat hat'
  have hsl := fun U => cut_recs ao ys.length cpo k (by have := hRX.2.1; omega) U
  have HTap : Hid (∀ U, Below X.heap.size X U → Calls Tryd.prog 14 #[.agg #[.int .i64 S, .slice (some ⟨g, 0, none⟩) n cp, .int .i64 P], .slice ao k k] U fun e w' => ∃ (ta : Option Addr) (tl tc : Nat),
      e = .returned (.tuple #[.agg #[.slice ta tl tc, .int .i64 0], .bool true]) ∧ IsB w' ta tl tc (tapeOf (ys.take k)) ∧ tl ≤ 625 ∧ (∀ b off, ta = some ⟨b, off, none⟩ → U.heap.size ≤ b ∧ b < w'.heap.size) ∧ Below U.heap.size U w') := fun U hU => by
    obtain ⟨s1, s2, s3, s4⟩ := KS.out _ (bX.trans (hU.mono bX.size))
    exact taped_any S P (some ⟨g, 0, none⟩) n cp L ao k k (ys.take k) U s1 ((hRX.take k hk).below hU) (fun y hy => (hGy.out y (List.mem_of_mem_take hy)).1) (by omega) s2 s3 s4
  have KX : Hid (∀ U : World, Below X.heap.size X U → U.cell? ⟨w1.heap.size, 0, none⟩ = some (.int .i64 S) ∧ U.cell? ⟨w1.heap.size, 1, none⟩ = some (.slice (some ⟨g, 0, none⟩) n cp) ∧ U.cell? ⟨w1.heap.size, 2, none⟩ = some (.int .i64 P)) := fun U hU => KC.out _ (bX.trans (hU.mono bX.size))
  have hD : Below X.heap.size X X.drew := (Below.refl _ _).drew
  clear hC1 hBW hb1 hCfg hBw hCW zW
  go_cut [14, 15] (fun s14 s15 wc => ∃ (q : Nat) (ta : Option Addr) (tl tc : Nat), s14 = .pointer (some ⟨q, 0, none⟩) ∧ s15 = .bool true ∧ BoxN wc q 2 [.slice ta tl tc, .int .i64 0] ∧ IsB wc ta tl tc (tapeOf (ys.take k)) ∧ tl ≤ 625 ∧ X.heap.size ≤ q ∧ Below X.heap.size X wc)
  case first =>
    rename_i K0 hK0 J0 K1 hJ0 hM0
    clear hK0
    go_region_held3 (fun U => U.cell? ⟨w1.heap.size, 0, none⟩ = some (.int .i64 S) ∧ U.cell? ⟨w1.heap.size, 1, none⟩ = some (.slice (some ⟨g, 0, none⟩) n cp) ∧ U.cell? ⟨w1.heap.size, 2, none⟩ = some (.int .i64 P))
      (exact KX.out _ (by (with_reducible repeat (first | exact hu3 | exact hD | exact Below.refl _ _ | refine bD ?_ | refine bA ?_ _ | refine bS ?_ (by omega) _)); done))
      ((go_at_call 14; refine (HTap.out _ (by (with_reducible repeat (first | exact hD | exact Below.refl _ _ | refine bD ?_ | refine bA ?_ _ | refine bS ?_ (by omega) _)); done)).mono ?_; rintro e u3 ⟨ta3, tl3, tc3, rfl, hI3, htl3, hn3, hb3'⟩; have HI3 : Hid (IsB u3 ta3 tl3 tc3 (tapeOf (ys.take k))) := hI3; have HnT : Hid (∀ b off, ta3 = some ⟨b, off, none⟩ → _ ≤ b) := (fun b off e => (hn3 b off e).1); clear hI3 hn3; have hu3 : Below X.heap.size X u3 := bT (by (with_reducible repeat (first | exact hD | exact Below.refl _ _ | refine bD ?_ | refine bA ?_ _ | refine bS ?_ (by omega) _)); done) hb3'; have z3 : X.heap.size ≤ u3.heap.size := hu3.size; (first | (have bx3 : BoxN u3 X.heap.size 2 [.slice none 0 0, .int .i64 0] := (boxn_new X.drew #[.slice none 0 0, .int .i64 0] 46 2 rfl).below hb3' (by simp); have hne3 : Hid (∀ b off, ta3 = some ⟨b, off, none⟩ → b ≠ X.heap.size) := fun b off e => Nat.ne_of_gt (Nat.lt_of_lt_of_le (by simp) (HnT.out b off e)); have t0 : _ = some (Value.slice none 0 0) := (bx3.c 0 (by omega)).1; have g0 := (bx3.c 0 (by omega)).2; have t1 : _ = some (Value.int .i64 0) := (bx3.c 1 (by omega)).1; have g1 := (bx3.c 1 (by omega)).2) | (have bx3 : BoxN u3 X.heap.size 2 [.slice none 0 0, .int .i64 0] := (boxn_new X #[.slice none 0 0, .int .i64 0] 46 2 rfl).below hb3' (by simp); have hne3 : Hid (∀ b off, ta3 = some ⟨b, off, none⟩ → b ≠ X.heap.size) := fun b off e => Nat.ne_of_gt (Nat.lt_of_lt_of_le (by simp) (HnT.out b off e)); have t0 : _ = some (Value.slice none 0 0) := (bx3.c 0 (by omega)).1; have g0 := (bx3.c 0 (by omega)).2; have t1 : _ = some (Value.int .i64 0) := (bx3.c 1 (by omega)).1; have g1 := (bx3.c 1 (by omega)).2) | skip)))
    all_goals
      first
        | (have bxF := (bx3.set 0 (by omega) (.slice ta3 tl3 tc3)).set 1 (by omega) (.int .i64 0))
        | (have bxF : BoxN _ u3.heap.size 2 [.slice ta3 tl3 tc3, .int .i64 0] := boxn_new u3 #[.slice ta3 tl3 tc3, .int .i64 0] 46 2 rfl)
      go_wp2_with fail
      go_meet
      case rel => exact ⟨_, ta3, tl3, tc3, rfl, rfl, bxF, (by (with_reducible repeat (first | exact HI3.out | exact hne3.out | refine IsB.set ?_ _ _ ?_ | refine isB_alloc ?_ _)); done), htl3, (by omega), (by (with_reducible repeat (first | exact hu3 | exact hD | exact Below.refl _ _ | refine bD ?_ | refine bA ?_ _ | refine bS ?_ (by omega) _)); done)⟩
  case rest =>
    obtain ⟨q, ta, tl, tc, rfl, rfl, bxF, hI, htl, zq, bF⟩ := hcut
    obtain ⟨Y, eY⟩ : ∃ Y, Y = wc := ⟨_, rfl⟩
    rw [← eY] at bxF hI bF ⊢
    clear eY HTap hsl
    have hmay : mayT tl 0 = true := by simp [mayT]; omega
    have hSy := fun U h' => sync_any ta tl tc (tapeOf (ys.take k)) 0 U h'
    rw [hmay] at hSy
    simp only [if_true] at hSy
    have qlt := bxF.lt
    have m0 : Y.cell? ⟨q, 0, none⟩ = some (.slice ta tl tc) := (bxF.c 0 (by omega)).1
    have m1 : Y.cell? ⟨q, 1, none⟩ = some (.int .i64 0) := (bxF.c 1 (by omega)).1
    have f0 : Y.frozen? ⟨q, 0, none⟩ = false := (bxF.c 0 (by omega)).2
    have f1 : Y.frozen? ⟨q, 1, none⟩ = false := (bxF.c 1 (by omega)).2
    go_upto_region 6 with (go_at_call 15; refine (hSy _ hI).mono ?_; rintro e w5 ⟨ya, yl, yc, rfl, hIy, hny, hb5⟩; have HnY : Hid (∀ b off, ya = some ⟨b, off, none⟩ → b ≠ q) := (fun b off e => Nat.ne_of_gt (Nat.lt_of_lt_of_le qlt (hny b off e))); clear hny; have bx5 := bxF.below hb5 qlt; have x0 : _ = some (Value.slice ta tl tc) := (bx5.c 0 (by omega)).1; have x1 : _ = some (Value.int .i64 0) := (bx5.c 1 (by omega)).1; have h0 := (bx5.c 0 (by omega)).2; have h1 := (bx5.c 1 (by omega)).2)
    have hyl : yl = tl := by have h1 := hIy.1; have h2 := hI.1; omega
    subst hyl
    obtain ⟨V5, hV5⟩ : ∃ V : World, V = (w5.setCell ⟨q, 0, none⟩ (.slice ya yl yc)).setCell ⟨q, 1, none⟩ (.int .i64 (yl : Int)) := ⟨_, rfl⟩
    have bx5' : BoxN V5 q 2 [.slice ya yl yc, .int .i64 (yl : Int)] := by rw [hV5]; exact (bx5.set 0 (by omega) _).set 1 (by omega) _
    have hIY5 : IsB V5 ya yl yc (tapeOf (ys.take k)) := by rw [hV5]; exact (hIy.set _ _ HnY.out).set _ _ HnY.out
    have bV5 : Below X.heap.size X V5 := by rw [hV5]; exact bS (bS (bT bF hb5) zq _) zq _
    rw [← hV5]
    clear hV5 x0 x1 h0 h1 bx5 m0 m1 f0 f1 hSy bxF hI hIy HnY
    have hn0 : (tapeOf (ys.take k)).length = yl := hIY5.1
    have HLen : Hid ((tapeOf ys).length ≤ 625 ∧ ∀ i, (tapeOf (ys.take i)).length ≤ (tapeOf ys).length) := by
      refine show _ ∧ _ from ⟨?_, fun i => tapeOf_take_all ys i⟩
      have := tapeOf_len ys hGy.out
      omega
    have HKA : Hid (∀ (gs : List RcV) (N q : Nat), N ≤ (tapeOf ys).length → yl ≤ N → AllOf S L P ((tapeOf ys).take N) gs q → KeepAll ys gs k yl q) := fun gs N q hN hnN h1 => keep_all hGy.out hk hn0.symm hN hnN h1
    have HN0 : Hid (∀ i, k ≤ i → yl ≤ (tapeOf (ys.take i)).length) := fun i hi => by have := tapeOf_take_le ys k i hi; omega
    clear hn0
    have m0 : V5.cell? ⟨q, 0, none⟩ = some (.slice ya yl yc) := (bx5'.c 0 (by omega)).1
    go_wp2
    clear m0
    go_loopw [18] (fun s18 wr => ∃ (i : Nat) (ta2 : Option Addr) (tl2 tc2 : Nat), k ≤ i ∧ i ≤ ys.length ∧ s18 = .int .i64 (i : Int) ∧ BoxN wr q 2 [.slice ta2 tl2 tc2, .int .i64 (yl : Int)] ∧ IsB wr ta2 tl2 tc2 (tapeOf (ys.take i)) ∧ Below X.heap.size X wr) (fun s18 _ => ys.length - (intOf s18).toNat)
    case atStart => exact ⟨k, ya, yl, yc, Nat.le_refl _, hk, rfl, bx5', hIY5, bV5⟩
    case round =>
      obtain ⟨i, ta2, tl2, tc2, hki, hi, rfl, bxr, hIr, hbr⟩ := hrel
      clear bx5' hIY5 bV5
      have hl2 : tl2 ≤ 625 ∧ yl ≤ tl2 := by have h1 := HLen.out; have h2 := h1.2 i; have h3 := HN0.out i hki; have h4 := hIr.1; omega
      have qlr := bxr.lt
      by_cases hlt : i < ys.length
      · have hlt' : (i : Int) < (ys.length : Int) := by omega
        have hRr := hRX.below hbr
        obtain ⟨b, off, eao, zb, hcells0⟩ := hRr.2.2.2.2 (by omega)
        have hcells := hcells0 i hlt
        have hmem : ys.getD i default ∈ ys := by simp [List.getD, hlt]
        have hI0 := hRr.2.2.2.1 _ hmem
        have hf0 := (hGy.out _ hmem).1
        have eS := tapeOf_snoc ys i hlt
        obtain ⟨r, er⟩ : ∃ r, r = ys.getD i default := ⟨_, rfl⟩
        rw [← er] at hcells hI0 hf0 eS
        clear er hmem hcells0
        have hbd := recBytes_bd hf0 hI0.1
        have hAp := fun w' h1 h2 h3 h4 h5 h6 => append_any S P (some ⟨g, 0, none⟩) n cp L ta2 tl2 tc2 (tapeOf (ys.take i)) (yl : Int) r w' h1 h2 h3 h4 h5 h6
        have eE : apErr tl2 (yl : Int) (recFault S L P r) (recBytes r) = 0 := by
          unfold apErr
          rw [hf0, show mayT tl2 (yl : Int) = true from by simp [mayT]; omega]
          simp
          omega
        rw [eE] at hAp
        simp only [apBs, apY, if_true] at hAp
        rw [← eS] at hAp
        clear eS eE hf0 hbd
        obtain ⟨kind, site, num, key, value, ask, yes, sa, sl, sc, sites⟩ := r
        simp only [RcV.val] at hAp
        simp only at hI0
        have HAp : Hid (∀ U, Below wr.heap.size wr U → Calls Tryd.prog 16 #[.agg #[.int .i64 S, .slice (some ⟨g, 0, none⟩) n cp, .int .i64 P], .agg #[.slice ta2 tl2 tc2, .int .i64 (yl : Int)], .agg #[.int .i64 kind, .int .i64 site, .int .i64 num, .int .i64 key, .int .i64 value, .int .i64 ask, .bool yes, .slice sa sl sc]] U fun e w' => TapeAns U w' e (tapeOf (ys.take (i + 1))) (yl : Int) 0) := fun U hU => by
          obtain ⟨s1, s2, s3, s4⟩ := KS.out _ (bX.trans ((hbr.trans (hU.mono hbr.size)).mono bX.size))
          exact hAp U s1 (hIr.below hU) (hI0.below hU) s2 s3 s4
        have a0 := hcells 0 (by decide)
        have a1 := hcells 1 (by decide)
        have a2 := hcells 2 (by decide)
        have a3 := hcells 3 (by decide)
        have a4 := hcells 4 (by decide)
        have a5 := hcells 5 (by decide)
        have a6 := hcells 6 (by decide)
        have a7 := hcells 7 (by decide)
        simp [RcV.cells] at a0 a1 a2 a3 a4 a5 a6 a7
        have m0 : wr.cell? ⟨q, 0, none⟩ = some (.slice ta2 tl2 tc2) := (bxr.c 0 (by omega)).1
        have m1 : wr.cell? ⟨q, 1, none⟩ = some (.int .i64 (yl : Int)) := (bxr.c 1 (by omega)).1
        have KR : Hid (∀ U : World, Below wr.heap.size wr U → (U.cell? ⟨w1.heap.size, 0, none⟩ = some (.int .i64 S) ∧ U.cell? ⟨w1.heap.size, 1, none⟩ = some (.slice (some ⟨g, 0, none⟩) n cp) ∧ U.cell? ⟨w1.heap.size, 2, none⟩ = some (.int .i64 P)) ∧ (U.cell? ⟨q, 0, none⟩ = some (.slice ta2 tl2 tc2) ∧ U.cell? ⟨q, 1, none⟩ = some (.int .i64 (yl : Int))) ∧ U.cell? ⟨b, off + i * 8, none⟩ = some (.int .i64 kind) ∧ U.cell? ⟨b, off + i * 8 + 1, none⟩ = some (.int .i64 site) ∧ U.cell? ⟨b, off + i * 8 + 2, none⟩ = some (.int .i64 num) ∧ U.cell? ⟨b, off + i * 8 + 3, none⟩ = some (.int .i64 key) ∧ U.cell? ⟨b, off + i * 8 + 4, none⟩ = some (.int .i64 value) ∧ U.cell? ⟨b, off + i * 8 + 5, none⟩ = some (.int .i64 ask) ∧ U.cell? ⟨b, off + i * 8 + 6, none⟩ = some (.bool yes) ∧ U.cell? ⟨b, off + i * 8 + 7, none⟩ = some (.slice sa sl sc)) := fun U hU => ⟨KX.out _ (hbr.trans (hU.mono hbr.size)), ⟨(hU.cell (p := ⟨q, 0, none⟩) qlr).trans m0, (hU.cell (p := ⟨q, 1, none⟩) qlr).trans m1⟩, (hU.cell (p := ⟨b, off + i * 8, none⟩) zb).trans a0, (hU.cell (p := ⟨b, off + i * 8 + 1, none⟩) zb).trans a1, (hU.cell (p := ⟨b, off + i * 8 + 2, none⟩) zb).trans a2, (hU.cell (p := ⟨b, off + i * 8 + 3, none⟩) zb).trans a3, (hU.cell (p := ⟨b, off + i * 8 + 4, none⟩) zb).trans a4, (hU.cell (p := ⟨b, off + i * 8 + 5, none⟩) zb).trans a5, (hU.cell (p := ⟨b, off + i * 8 + 6, none⟩) zb).trans a6, (hU.cell (p := ⟨b, off + i * 8 + 7, none⟩) zb).trans a7⟩
        have hDr : Below wr.heap.size wr wr.drew := (Below.refl _ _).drew
        clear hAp hcells hI0 hRr a0 a1 a2 a3 a4 a5 a6 a7 m0 m1
        subst eao
        go_upto_region 10 with (fail)
        go_cut [19, 20] (fun s19 s20 wc => ∃ (q2 : Nat) (pa : Option Addr) (pl pc : Nat), s19 = .pointer (some ⟨q2, 0, none⟩) ∧ s20 = .int .i64 0 ∧ BoxN wc q2 2 [.slice pa pl pc, .int .i64 (yl : Int)] ∧ IsB wc pa pl pc (tapeOf (ys.take (i + 1))) ∧ (∀ b off, pa = some ⟨b, off, none⟩ → b ≠ q) ∧ wr.heap.size ≤ q2 ∧ Below wr.heap.size wr wc)
        case first =>
          rename_i K0 hK0 J0 K1 hJ0 hM0
          clear hK0 HKA HLen HN0
          go_region_held3 (fun U => (U.cell? ⟨w1.heap.size, 0, none⟩ = some (.int .i64 S) ∧ U.cell? ⟨w1.heap.size, 1, none⟩ = some (.slice (some ⟨g, 0, none⟩) n cp) ∧ U.cell? ⟨w1.heap.size, 2, none⟩ = some (.int .i64 P)) ∧ (U.cell? ⟨q, 0, none⟩ = some (.slice ta2 tl2 tc2) ∧ U.cell? ⟨q, 1, none⟩ = some (.int .i64 (yl : Int))) ∧ U.cell? ⟨b, off + i * 8, none⟩ = some (.int .i64 kind) ∧ U.cell? ⟨b, off + i * 8 + 1, none⟩ = some (.int .i64 site) ∧ U.cell? ⟨b, off + i * 8 + 2, none⟩ = some (.int .i64 num) ∧ U.cell? ⟨b, off + i * 8 + 3, none⟩ = some (.int .i64 key) ∧ U.cell? ⟨b, off + i * 8 + 4, none⟩ = some (.int .i64 value) ∧ U.cell? ⟨b, off + i * 8 + 5, none⟩ = some (.int .i64 ask) ∧ U.cell? ⟨b, off + i * 8 + 6, none⟩ = some (.bool yes) ∧ U.cell? ⟨b, off + i * 8 + 7, none⟩ = some (.slice sa sl sc))
            (exact KR.out _ (by (with_reducible repeat (first | exact hu3 | exact hDr | exact Below.refl _ _ | refine bD ?_ | refine bA ?_ _ | refine bS ?_ (by omega) _)); done))
            ((go_at_call 16; refine (HAp.out _ (by (with_reducible repeat (first | exact hDr | exact Below.refl _ _ | refine bD ?_ | refine bA ?_ _ | refine bS ?_ (by omega) _)); done)).mono ?_; rintro e u3 ⟨ta3, tl3, tc3, rfl, hI3, hn3, hb3'⟩; have HI3 : Hid (IsB u3 ta3 tl3 tc3 (tapeOf (ys.take (i + 1)))) := hI3; have HnT : Hid (∀ b off, ta3 = some ⟨b, off, none⟩ → _ ≤ b) := hn3; clear hI3 hn3; have hu3 : Below wr.heap.size wr u3 := bT (by (with_reducible repeat (first | exact hDr | exact Below.refl _ _ | refine bD ?_ | refine bA ?_ _ | refine bS ?_ (by omega) _)); done) hb3'; have z3 : wr.heap.size ≤ u3.heap.size := hu3.size; have HnQ : Hid (∀ b off, ta3 = some ⟨b, off, none⟩ → b ≠ q) := (fun b off e => Nat.ne_of_gt (Nat.lt_of_lt_of_le (Nat.lt_of_lt_of_le qlr (by first | exact Nat.le_refl _ | (simp; done) | (simp; omega))) (HnT.out b off e))); (first | (have bx3 : BoxN u3 wr.heap.size 2 [.slice none 0 0, .int .i64 0] := (boxn_new wr.drew #[.slice none 0 0, .int .i64 0] 46 2 rfl).below hb3' (by simp); have hne3 : Hid (∀ b off, ta3 = some ⟨b, off, none⟩ → b ≠ wr.heap.size) := fun b off e => Nat.ne_of_gt (Nat.lt_of_lt_of_le (by simp) (HnT.out b off e)); have t0 : _ = some (Value.slice none 0 0) := (bx3.c 0 (by omega)).1; have g0 := (bx3.c 0 (by omega)).2; have t1 : _ = some (Value.int .i64 0) := (bx3.c 1 (by omega)).1; have g1 := (bx3.c 1 (by omega)).2) | (have bx3 : BoxN u3 wr.heap.size 2 [.slice none 0 0, .int .i64 0] := (boxn_new wr #[.slice none 0 0, .int .i64 0] 46 2 rfl).below hb3' (by simp); have hne3 : Hid (∀ b off, ta3 = some ⟨b, off, none⟩ → b ≠ wr.heap.size) := fun b off e => Nat.ne_of_gt (Nat.lt_of_lt_of_le (by simp) (HnT.out b off e)); have t0 : _ = some (Value.slice none 0 0) := (bx3.c 0 (by omega)).1; have g0 := (bx3.c 0 (by omega)).2; have t1 : _ = some (Value.int .i64 0) := (bx3.c 1 (by omega)).1; have g1 := (bx3.c 1 (by omega)).2) | skip)))
          all_goals
            first
              | (have bxF := (bx3.set 0 (by omega) (.slice ta3 tl3 tc3)).set 1 (by omega) (.int .i64 (yl : Int)))
              | (have bxF : BoxN _ u3.heap.size 2 [.slice ta3 tl3 tc3, .int .i64 (yl : Int)] := boxn_new u3 #[.slice ta3 tl3 tc3, .int .i64 (yl : Int)] 46 2 rfl)
            go_wp2_with fail
            go_meet
            case rel => exact ⟨_, ta3, tl3, tc3, rfl, rfl, bxF, (by (with_reducible repeat (first | exact HI3.out | exact hne3.out | refine IsB.set ?_ _ _ ?_ | refine isB_alloc ?_ _)); done), HnQ.out, (by omega), (by (with_reducible repeat (first | exact hu3 | exact hDr | exact Below.refl _ _ | refine bD ?_ | refine bA ?_ _ | refine bS ?_ (by omega) _)); done)⟩
        case rest =>
          obtain ⟨q2, pa, pl, pc, rfl, rfl, bx2, hI2, hnQ0, zq2, bw2⟩ := hcut
          have HnQ : Hid (∀ b off, pa = some ⟨b, off, none⟩ → b ≠ q) := hnQ0
          clear hnQ0
          obtain ⟨Z, eZ⟩ : ∃ Z, Z = wc := ⟨_, rfl⟩
          rw [← eZ] at bx2 hI2 bw2 ⊢
          clear eZ KR HAp
          have bxq := bxr.below bw2 qlr
          have y0 : Z.cell? ⟨q2, 0, none⟩ = some (.slice pa pl pc) := (bx2.c 0 (by omega)).1
          have y1 : Z.cell? ⟨q2, 1, none⟩ = some (.int .i64 (yl : Int)) := (bx2.c 1 (by omega)).1
          have x0 : Z.cell? ⟨q, 0, none⟩ = some (.slice ta2 tl2 tc2) := (bxq.c 0 (by omega)).1
          have x1 : Z.cell? ⟨q, 1, none⟩ = some (.int .i64 (yl : Int)) := (bxq.c 1 (by omega)).1
          have g0 : Z.frozen? ⟨q, 0, none⟩ = false := (bxq.c 0 (by omega)).2
          have g1 : Z.frozen? ⟨q, 1, none⟩ = false := (bxq.c 1 (by omega)).2
          go_wp2
          go_roundw
          case rel => exact ⟨i + 1, pa, pl, pc, by omega, by omega, by go_num, (bxq.set 0 (by omega) _).set 1 (by omega) _, (hI2.set _ _ HnQ.out).set _ _ HnQ.out, bS (bS (bT hbr bw2) zq _) zq _⟩
          case measure => simp [intOf]; omega
      · have hie : i = ys.length := by omega
        have etk : ys.take i = ys := List.take_of_length_le (by omega)
        rw [etk] at hIr
        clear etk
        have hlt' : ¬ (i : Int) < (ys.length : Int) := by omega
        have hpk := fun w' => picked_any keep 200 w' hke' (by decide) (by decide)
        have pb := pk_bd keep 200 (by decide)
        obtain ⟨kn, ek⟩ : ∃ j : Nat, pk keep 200 = j := ⟨(pk keep 200).toNat, by omega⟩
        rw [ek] at hpk pb
        clear ek
        have hkn : kn < 200 := by omega
        clear pb
        have hmy : mayT tl2 (yl : Int) = true := by simp [mayT]; omega
        obtain ⟨N, eN⟩ : ∃ N, N = crN tl2 (yl : Int) (kn : Int) := ⟨_, rfl⟩
        have hNle : N ≤ tl2 := by rw [eN]; exact crN_le hmy (by omega)
        have hNge : yl ≤ N := by rw [eN]; unfold crN; split <;> omega
        have hCr := fun w' h' => crash_any ta2 tl2 tc2 (tapeOf ys) (yl : Int) (kn : Int) w' h' (by omega)
        have e0 : crErr tl2 (yl : Int) (kn : Int) = 0 := by unfold crErr; rw [hmy]; simp
        unfold crBs crY at hCr
        rw [e0, ← eN] at hCr
        simp only [if_true] at hCr
        clear eN e0 hmy
        have hlen : (tapeOf ys).length = tl2 := hIr.1
        have HKB : Hid (∀ (gs : List RcV) (q : Nat), AllOf S L P ((tapeOf ys).take N) gs q → KeepAll ys gs k yl q) := fun gs q h1 => HKA.out gs N q (by omega) hNge h1
        have hNl : N ≤ (tapeOf ys).length := by omega
        clear hlen HKA HLen HN0 hie
        obtain ⟨tb, etb⟩ : ∃ tb, tb = tapeOf ys := ⟨_, rfl⟩
        rw [← etb] at hIr HKB hCr hNl
        clear etb hGy
        have hDX : Below wr.heap.size wr wr.drew := (Below.refl _ _).drew
        have KY : Hid (∀ U : World, Below wr.heap.size wr U → BoxN U q 2 [.slice ta2 tl2 tc2, .int .i64 (yl : Int)] ∧ IsB U ta2 tl2 tc2 tb) := fun U hU => ⟨bxr.below hU qlr, hIr.below hU⟩
        have m0 : wr.drew.cell? ⟨q, 0, none⟩ = some (.slice ta2 tl2 tc2) := ((KY.out _ hDX).1.c 0 (by omega)).1
        have m1 : wr.drew.cell? ⟨q, 1, none⟩ = some (.int .i64 (yl : Int)) := ((KY.out _ hDX).1.c 1 (by omega)).1
        have f0 : wr.drew.frozen? ⟨q, 0, none⟩ = false := ((KY.out _ hDX).1.c 0 (by omega)).2
        have f1 : wr.drew.frozen? ⟨q, 1, none⟩ = false := ((KY.out _ hDX).1.c 1 (by omega)).2
        have hIX := (KY.out _ hDX).2
        clear bxr hIr
        go_upto_region 14 with (fail)
        go_cut [21] (fun s21 wc => s21 = .int .i64 0 ∧ ∃ (ca : Option Addr) (cl cc : Nat), BoxN wc q 2 [.slice ca cl cc, .int .i64 (N : Int)] ∧ IsB wc ca cl cc (tb.take N) ∧ Below X.heap.size X wc)
        case first =>
          clear HKB
          rename_i K0 hK0 J0 K1 hJ0 hM0
          clear hK0
          go_region_with (first
            | ((go_at_call 12; refine (hpk _).mono ?_; rintro e v ⟨rfl, hv⟩; rw [hv]; clear hv v))
            | ((go_at_call 17; refine (hCr _ hIX).mono ?_; rintro e w5' ⟨a5, l5, c5, rfl, hI5, hnew5, hb5'⟩; have HI5 : Hid (IsB w5' a5 l5 c5 (tb.take N)) := hI5; have hX5 : Below wr.heap.size wr w5' := hDX.trans (hb5'.mono hDX.size); have HW5 : Hid (Below X.heap.size X w5') := bT hbr hX5; have H5 : Hid (∀ b off, a5 = some ⟨b, off, none⟩ → b ≠ q) := (fun b off e => Nat.ne_of_gt (Nat.lt_of_lt_of_le qlr (hnew5 b off e))); clear hI5 hnew5; have bx5 := (KY.out _ hX5).1; have y0 : _ = some (Value.slice ta2 tl2 tc2) := (bx5.c 0 (by omega)).1; have y1 : _ = some (Value.int .i64 (yl : Int)) := (bx5.c 1 (by omega)).1; have g0 := (bx5.c 0 (by omega)).2; have g1 := (bx5.c 1 (by omega)).2)))
          all_goals
            go_wp2_with fail
            go_meet
            case rel => exact ⟨rfl, a5, l5, c5, (bx5.set 0 (by omega) (.slice a5 l5 c5)).set 1 (by omega) (.int .i64 (N : Int)), (HI5.out.set _ _ H5.out).set _ _ H5.out, bS (bS HW5.out zq _) zq _⟩
        case rest =>
          obtain ⟨rfl, ca, cl, cc, bxC, hIC, bXY⟩ := hcut
          obtain ⟨Y2, eY⟩ : ∃ Y, Y = wc := ⟨_, rfl⟩
          rw [← eY] at bxC hIC bXY ⊢
          clear eY m0 m1 f0 f1 hIX KY hpk hCr
          have hclN : cl = N := by have := hIC.1; have h2 := hNl; simp at this; omega
          subst hclN
          have bY : Below W.heap.size W Y2 := bX.trans (bXY.mono bX.size)
          have hm1 : mayT cl (cl : Int) = true := by simp [mayT]; omega
          have hR1 := fun U h1 h2 h3 h4 h5 => recover_ok S P (some ⟨g, 0, none⟩) n cp L ca cl cc (tb.take cl) (cl : Int) U h1 h2 hm1 hok h3 h4 h5
          obtain ⟨c0, c1, c2⟩ := KC.out _ bY
          obtain ⟨s1, s2, s3, s4⟩ := KS.out _ bY
          have u0 : Y2.cell? ⟨q, 0, none⟩ = some (.slice ca cl cc) := (bxC.c 0 (by omega)).1
          have u1 : Y2.cell? ⟨q, 1, none⟩ = some (.int .i64 (cl : Int)) := (bxC.c 1 (by omega)).1
          go_upto_region 16 with (go_at_call 18; refine (hR1 _ s1 hIC s2 s3 s4).mono ?_; rintro e w6 ⟨ga, gc, gs, q6, ua, z6, rfl, hRg, hAl, hq6, hIu, hz6, hnU, hnA, hnS, hb6⟩; have hz' : z6 = (q6 : Int) := (by rw [hz6]; split <;> omega); clear hz6 hnU hnA hnS; subst hz')
          clear hR1
          obtain ⟨V6, hV6⟩ : ∃ V : World, V = w6.alloc (.cells #[.slice ua q6 q6, .int .i64 (q6 : Int)] 46) := ⟨_, rfl⟩
          have b6V : Below w6.heap.size w6 V6 := by rw [hV6]; exact (Below.refl _ _).alloc (Nat.le_refl _) _
          have vb : BoxN V6 w6.heap.size 2 [.slice ua q6 q6, .int .i64 (q6 : Int)] := by rw [hV6]; simpa using boxn_new w6 #[.slice ua q6 q6, .int .i64 (q6 : Int)] 46 2 rfl
          rw [← hV6]
          clear hV6 c0 c1 c2 u0 u1 s1 s2 s3 s4
          have bYV : Below Y2.heap.size Y2 V6 := hb6.trans (b6V.mono hb6.size)
          have bV6 : Below W.heap.size W V6 := bY.trans (bYV.mono bY.size)
          have bXV : Below X.heap.size X V6 := bXY.trans (bYV.mono bXY.size)
          obtain ⟨t1, t2, t3, t4, t5⟩ := HKB.out gs q6 hAl
          have hRg6 := hRg.below b6V
          have hRy6 := hRX.below bXV
          have hBg := fun U h1 h2 => begins_any ga ao gs.length ys.length gc cpo gs ys U h1 h2 t1 t2
          have HBg : Hid (∀ U, Below V6.heap.size V6 U → Calls Tryd.prog 19 #[.slice ga gs.length gc, .slice ao ys.length cpo] U fun e w' => e = .returned (.bool true) ∧ Below U.heap.size U w') := fun U hU => hBg U (hRg6.below hU) (hRy6.below hU)
          have v0 : V6.cell? ⟨w6.heap.size, 0, none⟩ = some (.slice ua q6 q6) := (vb.c 0 (by omega)).1
          have v1 : V6.cell? ⟨w6.heap.size, 1, none⟩ = some (.int .i64 (q6 : Int)) := (vb.c 1 (by omega)).1
          have z6 : w6.heap.size < V6.heap.size := vb.lt
          have t3' : (k : Int) ≤ (gs.length : Int) := by omega
          have t4' : (yl : Int) ≤ (q6 : Int) := by omega
          clear t1 t2 t3 t4 hBg hRg6 hRy6 hRg hAl hIu hIC bxC vb HKB hq6
          rcases t5 with t5 | t5
          · subst t5
            go_wp2_with (go_at_call 19; refine (HBg.out _ (Below.refl _ _)).mono ?_; rintro e w8 ⟨rfl, hb8⟩; have y0 := (hb8.cell (p := ⟨w6.heap.size, 0, none⟩) z6).trans v0; have y1 := (hb8.cell (p := ⟨w6.heap.size, 1, none⟩) z6).trans v1)
            go_ret
            exact ⟨by first | rfl | simp, KB.out _ (bV6.trans (hb8.mono bV6.size))⟩
          · have t5' : (0 : Int) < (yl : Int) := by omega
            by_cases hk0 : k = 0
            · subst hk0
              go_wp2_with (go_at_call 19; refine (HBg.out _ (Below.refl _ _)).mono ?_; rintro e w8 ⟨rfl, hb8⟩; have y0 := (hb8.cell (p := ⟨w6.heap.size, 0, none⟩) z6).trans v0; have y1 := (hb8.cell (p := ⟨w6.heap.size, 1, none⟩) z6).trans v1)
              go_ret
              exact ⟨by first | rfl | simp, KB.out _ (bV6.trans (hb8.mono bV6.size))⟩
            · have hk1 : ¬ (k : Int) = 0 := by omega
              have hk2 : ((k : Int) == 0) = false := by simp; omega
              go_wp2_with (go_at_call 19; refine (HBg.out _ (Below.refl _ _)).mono ?_; rintro e w8 ⟨rfl, hb8⟩; have y0 := (hb8.cell (p := ⟨w6.heap.size, 0, none⟩) z6).trans v0; have y1 := (hb8.cell (p := ⟨w6.heap.size, 1, none⟩) z6).trans v1)
              go_ret
              exact ⟨by first | rfl | simp, KB.out _ (bV6.trans (hb8.mono bV6.size))⟩
end Go.Proofs.YtfloplkepmpaiaaDoor
