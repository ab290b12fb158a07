/- Texts of this claim, one behind the other. -/
import Derived.Test.YtfloplkepmpaiaaDoorM21TapeOn
import Derived.Test.YtfloplkepmpaiaaDoorM24TapeOn
import Derived.Test.YtfloplkepmpaiaaDoorM25TapeOn
import Derived.Deep.RegionWith
/- The law TapeTorn at every argument. -/
namespace Go.Proofs.YtfloplkepmpaiaaDoor
open Go.ChangeShapes Go.WideShapes Go.ChangeAt Go.RowKit
set_option linter.unusedVariables false

theorem pl_pl (r : RcV) : r.pl.pl = r.pl := rfl
theorem map_pl_pl (l : List RcV) : (l.map RcV.pl).map RcV.pl = l.map RcV.pl := by rw [List.map_map]; rfl
/-- Lists whose records are alike, wherever their sites lie. -/
theorem alike {gs ys : List RcV} {j : Nat} (hj : j ≤ ys.length) (h : gs.map RcV.pl = (ys.take j).map RcV.pl) : gs.length = j ∧ ∀ i, i < gs.length → (gs.getD i default).bare = (ys.getD i default).bare := by
  have hl : gs.length = j := by
    have := congrArg List.length h
    simp at this
    omega
  refine ⟨hl, fun i hi => ?_⟩
  have := congrArg (fun l : List RcV => l[i]?) h
  simp only [List.getElem?_map, List.getElem?_take] at this
  have hi' : i < ys.length := by omega
  have hij : i < j := by omega
  simp [hi, hi', hij] at this
  simpa [List.getD, hi, hi', RcV.bare, RcV.pl] using this

theorem cut_same (ta : Option Addr) (tl tc k : Nat) (hk : k ≤ tc) (U : World) : (Instr.sliceAt 29 (.slice ta tl tc) none (some (.int .i64 (k : Int))) (some (.int .i64 (k : Int)))).run Tryd.prog U = .ok (.slice ta k k) U := by
  refine (run_sliceAt_slice (P := Tryd.prog) (w := U) 29 (.slice ta tl tc) none (some (.int .i64 _)) (some (.int .i64 _)) (by kernel_rfl)).trans ?_
  rw [run_slice_hm (P := Tryd.prog) (t := 29) (a := ta) (len := tl) (cap := tc) (w := U) (by kernel_rfl) .i64 .i64 (k : Int) (k : Int) (by omega) (by omega) (by omega)]
  have : (sizeOf (Tryd.prog.elem 29)).run Tryd.prog U = .ok 1 U := by kernel_rfl
  rw [this]
  cases ta <;> simp [sliced, Result.andThen, Addr.add]

theorem tape_build (ta : Option Addr) (k c : Nat) (U : World) : (Instr.build 46 #[(0, .slice ta k c)]).run Tryd.prog U = .ok (.agg #[.slice ta k c, .int .i64 0]) U := by kernel_rfl

/-- What is known behind the two recoveries of a torn tape. -/
structure TornAll (ys gs hs : List RcV) (bs : List Int) (tl k q q2 : Nat) : Prop where
  le : gs.length ≤ ys.length
  same : ∀ i, i < gs.length → (gs.getD i default).bare = (ys.getD i default).bare
  again : hs.length = gs.length
  num : q2 = q
  most : q ≤ k
  full : decide (gs.length = ys.length) = decide (k = tl)
theorem torn_all {S : Int} {L : List (Int × Int)} {P : Int} {ys gs hs : List RcV} {tl k q q2 : Nat} (hg : ∀ y ∈ ys, recFault S L P y = 0 ∧ y.sites.length = y.sl) (htl : (tapeOf ys).length = tl) (hk : k ≤ tl)
    (h1 : AllOf S L P ((tapeOf ys).take k) gs q) (h2 : AllOf S L P (((tapeOf ys).take k).take q) hs q2) : TornAll ys gs hs (((tapeOf ys).take k).take q) tl k q q2 := by
  obtain ⟨j, hT⟩ := torn_any ys hg k (by omega)
  have e1 := h1.1
  have e2 := h1.2
  rw [hT.recs, map_pl_pl] at e1
  rw [hT.num] at e2
  obtain ⟨hl, hsame⟩ := alike hT.le e1
  have hb : ((tapeOf ys).take k).take q = tapeOf (ys.take j) := by rw [← e2]; exact hT.bytes
  have hgj : ∀ y ∈ ys.take j, recFault S L P y = 0 ∧ y.sites.length = y.sl := fun y hy => hg y (List.mem_of_mem_take hy)
  have hw := whole_full (s := S) (ls := L) (p := P) (ys.take j) hgj
  have e3 := h2.1
  have e4 := h2.2
  rw [hb, hw] at e3 e4
  simp only [map_pl_pl] at e3 e4
  have hl2 : hs.length = j := by
    have := congrArg List.length e3
    simp at this
    have := hT.le
    omega
  refine ⟨by rw [hl]; exact hT.le, hsame, by omega, by omega, by have := hT.at_most; omega, ?_⟩
  rw [Bool.eq_iff_iff]
  simp only [decide_eq_true_eq]
  constructor
  · intro e
    have : ys.take j = ys := List.take_of_length_le (by omega)
    have hm := hT.at_most
    rw [this] at hm
    omega
  · intro e
    have h5 := hT.least ys.length (by rw [List.take_length]; omega) (Nat.le_refl _)
    have h6 := hT.le
    omega

set_option maxRecDepth 100000 in
set_option maxHeartbeats 4000000 in
theorem tapeTorn_walk (s : Int) (a : Option Addr) (len cap : Nat) (zs : List Int) (aa : Option Addr) (alen acap : Nat) (rs : List RV) (at' : Int) (w : World) (hs : (Lit.int .i64 s).wf = true) (h : IsInts w a len cap zs) (hx : IsRaws w aa alen acap rs) (hat : (Lit.int .i64 at').wf = true) (hm : HasAt w 2 rHas) (hwd : WidsAt w) (ht : TopsAt w) :
    Calls Tryd.prog 5 #[.int .i64 s, .slice a len cap, .slice aa alen acap, .int .i64 at'] w fun e w' => e = .returned (.bool true) ∧ Below w.heap.size w w' := by
  have hat' := i64_bd hat
  have hs' := i64_bd hs
  have hgT : 3 < w.heap.size := World.block_lt_of_cell? w _ ht.1
  have hgM : 2 < w.heap.size := hm.lt (by decide)
  have hgW : 1 < w.heap.size := hwd.lt
  have hCfg := fun w' h' => cfg_good s a len cap zs w' hs' h'
  go_enter Tryd.func5, Tryd.ntmps5
  go_upto_region 1 with (fail)
  go_upto_region 2 with (go_at_call 8; refine (hCfg _ h).mono ?_; rintro e w1 ⟨S, P, g, n, cp, L, rfl, hC1, hb1⟩)
  obtain ⟨W, hW⟩ : ∃ W : World, W = w1.alloc (.cells #[.int .i64 S, .slice (some ⟨g, 0, none⟩) n cp, .int .i64 P] 27) := ⟨_, rfl⟩
  have zW : w1.heap.size < W.heap.size := by rw [hW]; simp
  have c0 : W.cell? ⟨w1.heap.size, 0, none⟩ = some (.int .i64 S) := by rw [hW]; go_simp
  have c1 : W.cell? ⟨w1.heap.size, 1, none⟩ = some (.slice (some ⟨g, 0, none⟩) n cp) := by rw [hW]; go_simp
  have c2 : W.cell? ⟨w1.heap.size, 2, none⟩ = some (.int .i64 P) := by rw [hW]; go_simp
  have hBW : Below w1.heap.size w1 W := by rw [hW]; exact (Below.refl _ _).alloc (Nat.le_refl _) _
  rw [← hW]
  clear hW
  have hCW := hC1.below hBW
  have hBw : Below w.heap.size w W := hb1.trans (hBW.mono hb1.size)
  have hok := hCW.ok
  have KC : Hid (∀ U : World, Below W.heap.size W U → U.cell? ⟨w1.heap.size, 0, none⟩ = some (.int .i64 S) ∧ U.cell? ⟨w1.heap.size, 1, none⟩ = some (.slice (some ⟨g, 0, none⟩) n cp) ∧ U.cell? ⟨w1.heap.size, 2, none⟩ = some (.int .i64 P)) := by
    intro U hU
    exact ⟨(hU.cell (p := ⟨w1.heap.size, 0, none⟩) (by show w1.heap.size < _; omega)).trans c0, (hU.cell (p := ⟨w1.heap.size, 1, none⟩) (by show w1.heap.size < _; omega)).trans c1, (hU.cell (p := ⟨w1.heap.size, 2, none⟩) (by show w1.heap.size < _; omega)).trans c2⟩
  have KB : Hid (∀ U : World, Below W.heap.size W U → Below w.heap.size w U) := fun U hU => hBw.trans (hU.mono hBw.size)
  have KS : Hid (∀ U : World, Below W.heap.size W U → IsLabs U (some ⟨g, 0, none⟩) n cp L ∧ HasAt U 2 rHas ∧ TopsAt U ∧ WidsAt U) := fun U hU => ⟨hCW.labs.below hU, hm.below (KB.out U hU) hgM, ht.below (KB.out U hU) hgT, hwd.below (KB.out U hU) hgW⟩
  have KR : Hid (∀ U : World, Below W.heap.size W U → IsRaws U aa alen acap rs) := fun U hU => hx.below (KB.out U hU)
  have hRecs := fun w' h' => records_any S P (some ⟨g, 0, none⟩) n cp L aa alen acap rs 20 w' hok hCW.s1 hCW.s3 h' (by omega)
  go_upto_region 3 with (go_at_call 13; refine (hRecs _ (KR.out _ (Below.refl _ _))).mono ?_; rintro e w2 ⟨ao, cpo, ys, rfl, hR2, hg2, h25, hb2⟩)
  clear c0 c1 c2 hRecs
  obtain ⟨c0, c1, c2⟩ := KC.out _ hb2
  obtain ⟨s1, s2, s3, s4⟩ := KS.out _ hb2
  go_upto_region 4 with (go_at_call 14; refine (taped_any S P (some ⟨g, 0, none⟩) n cp L ao ys.length cpo ys _ s1 hR2 hg2 h25 s2 s3 s4).mono ?_; rintro e w3 ⟨ta, tl, tc, rfl, hI3, htl, hnew3, hb3⟩)
  obtain ⟨X, hX⟩ : ∃ X : World, X = w3.alloc (.cells #[.slice ta tl tc, .int .i64 0] 46) := ⟨_, rfl⟩
  have b3X : Below w3.heap.size w3 X := by rw [hX]; exact (Below.refl _ _).alloc (Nat.le_refl _) _
  have xb : BoxN X w3.heap.size 2 [.slice ta tl tc, .int .i64 0] := by rw [hX]; simpa using boxn_new w3 #[.slice ta tl tc, .int .i64 0] 46 2 rfl
  rw [← hX]
  clear hX c0 c1 c2 s1 s2 s3 s4
  have bX : Below W.heap.size W X := hb2.trans ((hb3.trans (b3X.mono hb3.size)).mono hb2.size)
  have hIX := hI3.below b3X
  have hRX := hR2.below (hb3.trans (b3X.mono hb3.size))
  have hlen : (tapeOf ys).length = tl := hIX.1
  have hg : ∀ y ∈ ys, recFault S L P y = 0 ∧ y.sites.length = y.sl := fun y hy => ⟨hg2 y hy, (hRX.2.2.2.1 y hy).1⟩
  have hTA : Hid (∀ (gs hs : List RcV) (k q q2 : Nat), k ≤ tl → AllOf S L P ((tapeOf ys).take k) gs q → AllOf S L P (((tapeOf ys).take k).take q) hs q2 → TornAll ys gs hs (((tapeOf ys).take k).take q) tl k q q2) := fun gs hs k q q2 hk h1 h2 => torn_all hg hlen hk h1 h2
  clear hlen hg
  obtain ⟨tb, etb⟩ : ∃ tb, tb = tapeOf ys := ⟨_, rfl⟩
  rw [← etb] at hIX hTA
  clear etb hI3
  have hpj := fun w' => picked_any at' ((tl : Int) + 1) w' hat' (by omega) (by omega)
  have pj := pk_bd at' ((tl : Int) + 1) (by omega)
  obtain ⟨k, ej⟩ : ∃ j : Nat, pk at' ((tl : Int) + 1) = j := ⟨(pk at' ((tl : Int) + 1)).toNat, by omega⟩
  rw [ej] at hpj pj
  clear ej
  have hk : k ≤ tl := by omega
  have tlc : tl ≤ tc := hIX.2.1
  have hbd := fun U => tape_build ta k k U
  have hsl := fun U => cut_same ta tl tc k (by omega) U
  have xlt := xb.lt
  have m0 : X.cell? ⟨w3.heap.size, 0, none⟩ = some (.slice ta tl tc) := (xb.c 0 (by omega)).1
  go_upto_region 5 with (go_at_call 12; refine (hpj _).mono ?_; rintro e v ⟨rfl, hv⟩; rw [hv]; clear hv v)
  clear hpj pj
  have hKk := hIX.take k k hk (Nat.le_refl _) (by omega)
  have hmay : mayT k 0 = true := by simp [mayT]; omega
  have HRec : Hid (∀ U, Below X.heap.size X U → Calls Tryd.prog 18 #[.agg #[.int .i64 S, .slice (some ⟨g, 0, none⟩) n cp, .int .i64 P], .agg #[.slice ta k k, .int .i64 0]] U fun e w' => ∃ (ao : Option Addr) (cp : Nat) (gs : List RcV) (q : Nat) (ua : Option Addr) (z : Int),
      e = .returned (.tuple #[.slice ao gs.length cp, .agg #[.slice ua q q, .int .i64 z], .int .i64 0]) ∧ IsRecs w' ao gs.length cp gs ∧ AllOf S L P (tb.take k) gs q ∧ q ≤ k ∧ IsB w' ua q q ((tb.take k).take q) ∧ z = (if (q : Int) < 0 then (q : Int) else 0) ∧ (∀ b off, ua = some ⟨b, off, none⟩ → U.heap.size ≤ b) ∧ (∀ b off, ao = some ⟨b, off, none⟩ → U.heap.size ≤ b) ∧ (∀ y ∈ gs, ∀ b off, y.sa = some ⟨b, off, none⟩ → U.heap.size ≤ b) ∧ Below U.heap.size U w') := fun U hU => by
    have hWU := bX.trans (hU.mono bX.size)
    obtain ⟨s1, s2, s3, s4⟩ := KS.out _ hWU
    exact recover_ok S P (some ⟨g, 0, none⟩) n cp L ta k k (tb.take k) 0 U s1 (hKk.below hU) hmay hok s2 s3 s4
  have KX : Hid (∀ U : World, Below X.heap.size X U → (U.cell? ⟨w1.heap.size, 0, none⟩ = some (.int .i64 S) ∧ U.cell? ⟨w1.heap.size, 1, none⟩ = some (.slice (some ⟨g, 0, none⟩) n cp) ∧ U.cell? ⟨w1.heap.size, 2, none⟩ = some (.int .i64 P)) ∧ U.cell? ⟨w3.heap.size, 0, none⟩ = some (.slice ta tl tc)) := fun U hU => ⟨KC.out _ (bX.trans (hU.mono bX.size)), (hU.cell (p := ⟨w3.heap.size, 0, none⟩) xlt).trans m0⟩
  have hD : Below X.heap.size X X.drew := (Below.refl _ _).drew
  clear hKk hmay hg2 h25 hnew3 hb3 b3X hb2 hC1 hBW hb1 hCfg hBw hCW zW
  go_cut [14, 15, 16] (fun s14 s15 s16 wc => ∃ (ga : Option Addr) (gc : Nat) (gs : List RcV) (q qb : Nat) (ua : Option Addr), s14 = .slice ga gs.length gc ∧ s15 = .pointer (some ⟨qb, 0, none⟩) ∧ s16 = .int .i64 0 ∧ BoxN wc qb 2 [.slice ua q q, .int .i64 0] ∧ IsRecs wc ga gs.length gc gs ∧ AllOf S L P (tb.take k) gs q ∧ q ≤ k ∧ IsB wc ua q q ((tb.take k).take q) ∧ Below X.heap.size X wc)
  case first =>
    clear hTA hRX hR2
    rename_i K0 hK0 J0 K1 hJ0 hM0
    clear hK0
    go_region_held3 (fun U => (U.cell? ⟨w1.heap.size, 0, none⟩ = some (.int .i64 S) ∧ U.cell? ⟨w1.heap.size, 1, none⟩ = some (.slice (some ⟨g, 0, none⟩) n cp) ∧ U.cell? ⟨w1.heap.size, 2, none⟩ = some (.int .i64 P)) ∧ U.cell? ⟨w3.heap.size, 0, none⟩ = some (.slice ta tl tc))
      (exact KX.out _ (by (with_reducible repeat (first | exact hu3 | exact hD | exact Below.refl _ _ | refine bD ?_ | refine bA ?_ _ | refine bS ?_ (by omega) _)); done))
      ((go_at_call 18; refine (HRec.out _ (by (with_reducible repeat (first | exact hD | exact Below.refl _ _ | refine bD ?_ | refine bA ?_ _ | refine bS ?_ (by omega) _)); done)).mono ?_; rintro e u3 ⟨ga, gc, gs, q, ua, z, rfl, hRg, hAl, hqk, hIu, hz, hnewU, hnewA, hnewS, hb3'⟩; obtain rfl : z = 0 := (by rw [hz, if_neg (by omega)]); clear hz; have HAl : Hid (AllOf S L P (tb.take k) gs q) := hAl; have HIu : Hid (IsB u3 ua q q ((tb.take k).take q)) := hIu; have HRg : Hid (IsRecs u3 ga gs.length gc gs) := hRg; have HnU : Hid (∀ b off, ua = some ⟨b, off, none⟩ → _ ≤ b) := hnewU; have HnA : Hid (∀ b off, ga = some ⟨b, off, none⟩ → _ ≤ b) := hnewA; have HnS : Hid (∀ y ∈ gs, ∀ b off, y.sa = some ⟨b, off, none⟩ → _ ≤ b) := hnewS; clear hAl hIu hRg hnewU hnewA hnewS; have hu3 : Below X.heap.size X u3 := bT (by (with_reducible repeat (first | exact hD | exact Below.refl _ _ | refine bD ?_ | refine bA ?_ _ | refine bS ?_ (by omega) _)); done) hb3'; have z3 : X.heap.size ≤ u3.heap.size := hu3.size; (first | (have bx3 : BoxN u3 X.heap.size 2 [.slice none 0 0, .int .i64 0] := (boxn_new X.drew #[.slice none 0 0, .int .i64 0] 46 2 rfl).below hb3' (by simp); have hneU : Hid (∀ b off, ua = some ⟨b, off, none⟩ → b ≠ X.heap.size) := fun b off e => Nat.ne_of_gt (Nat.lt_of_lt_of_le (by simp) (HnU.out b off e)); have hneA : Hid (∀ b off, ga = some ⟨b, off, none⟩ → b ≠ X.heap.size) := fun b off e => Nat.ne_of_gt (Nat.lt_of_lt_of_le (by simp) (HnA.out b off e)); have hneS : Hid (∀ y ∈ gs, ∀ b off, y.sa = some ⟨b, off, none⟩ → b ≠ X.heap.size) := fun y hy b off e => Nat.ne_of_gt (Nat.lt_of_lt_of_le (by simp) (HnS.out y hy b off e)); have t0 : _ = some (Value.slice none 0 0) := (bx3.c 0 (by omega)).1; have g0 := (bx3.c 0 (by omega)).2; have t1 : _ = some (Value.int .i64 0) := (bx3.c 1 (by omega)).1; have g1 := (bx3.c 1 (by omega)).2) | (have bx3 : BoxN u3 X.heap.size 2 [.slice none 0 0, .int .i64 0] := (boxn_new X #[.slice none 0 0, .int .i64 0] 46 2 rfl).below hb3' (by simp); have hneU : Hid (∀ b off, ua = some ⟨b, off, none⟩ → b ≠ X.heap.size) := fun b off e => Nat.ne_of_gt (Nat.lt_of_lt_of_le (by simp) (HnU.out b off e)); have hneA : Hid (∀ b off, ga = some ⟨b, off, none⟩ → b ≠ X.heap.size) := fun b off e => Nat.ne_of_gt (Nat.lt_of_lt_of_le (by simp) (HnA.out b off e)); have hneS : Hid (∀ y ∈ gs, ∀ b off, y.sa = some ⟨b, off, none⟩ → b ≠ X.heap.size) := fun y hy b off e => Nat.ne_of_gt (Nat.lt_of_lt_of_le (by simp) (HnS.out y hy b off e)); have t0 : _ = some (Value.slice none 0 0) := (bx3.c 0 (by omega)).1; have g0 := (bx3.c 0 (by omega)).2; have t1 : _ = some (Value.int .i64 0) := (bx3.c 1 (by omega)).1; have g1 := (bx3.c 1 (by omega)).2) | skip)))
    all_goals
      first
        | (have bxF := (bx3.set 0 (by omega) (.slice ua q q)).set 1 (by omega) (.int .i64 0))
        | (have bxF : BoxN _ u3.heap.size 2 [.slice ua q q, .int .i64 0] := boxn_new u3 #[.slice ua q q, .int .i64 0] 46 2 rfl)
      go_wp2_with fail
      go_meet
      case rel => exact ⟨ga, gc, gs, q, _, ua, rfl, rfl, rfl, bxF, (by (with_reducible repeat (first | exact HRg.out | exact hneA.out | exact hneS.out | refine isRecs_set ?_ ?_ ?_ | refine IsRecs.below ?_ ((Below.refl _ _).alloc (Nat.le_refl _) _))); done), HAl.out, hqk, (by (with_reducible repeat (first | exact HIu.out | exact hneU.out | refine IsB.set ?_ _ _ ?_ | refine isB_alloc ?_ _)); done), (by (with_reducible repeat (first | exact hu3 | exact hD | exact Below.refl _ _ | refine bD ?_ | refine bA ?_ _ | refine bS ?_ (by omega) _)); done)⟩
  case rest =>
    obtain ⟨ga, gc, gs, q, qb, ua, rfl, rfl, rfl, bxU, hRg, hAl, hqk, hIu, bF⟩ := hcut
    obtain ⟨Y, eY⟩ : ∃ Y, Y = wc := ⟨_, rfl⟩
    rw [← eY] at bxU hRg hIu bF ⊢
    clear eY
    have bY : Below W.heap.size W Y := bX.trans (bF.mono bX.size)
    have hm2 : mayT q 0 = true := by simp [mayT]; omega
    have hRec2 := fun U h1 h2 h3 h4 h5 => recover_ok S P (some ⟨g, 0, none⟩) n cp L ua q q ((tb.take k).take q) 0 U h1 h2 hm2 hok h3 h4 h5
    have hRec3 := fun U => recover_state S P (some ⟨g, 0, none⟩) n cp none 0 0 1 U (by decide) (by decide)
    obtain ⟨c0, c1, c2⟩ := KC.out _ bY
    obtain ⟨s1, s2, s3, s4⟩ := KS.out _ bY
    have u0 : Y.cell? ⟨qb, 0, none⟩ = some (.slice ua q q) := (bxU.c 0 (by omega)).1
    have u1 : Y.cell? ⟨qb, 1, none⟩ = some (.int .i64 0) := (bxU.c 1 (by omega)).1
    have qlt := bxU.lt
    go_upto_region 7 with (go_at_call 18; refine (hRec2 _ s1 hIu s2 s3 s4).mono ?_; rintro e w6 ⟨ha, hc, hs2, q2, va, z2, rfl, hRh, hAl2, hq2, hIv, hz2, hnV, hnA, hnS, hb6⟩; clear hnV hnA hnS)
    obtain rfl : z2 = 0 := by rw [hz2, if_neg (by omega)]
    obtain ⟨V6, hV6⟩ : ∃ V : World, V = w6.alloc (.cells #[.slice va q2 q2, .int .i64 0] 46) := ⟨_, rfl⟩
    have b6V : Below w6.heap.size w6 V6 := by rw [hV6]; exact (Below.refl _ _).alloc (Nat.le_refl _) _
    have vb : BoxN V6 w6.heap.size 2 [.slice va q2 q2, .int .i64 0] := by rw [hV6]; simpa using boxn_new w6 #[.slice va q2 q2, .int .i64 0] 46 2 rfl
    rw [← hV6]
    clear hV6 c0 c1 c2 u0 u1 s1 s2 s3 s4 hRec2 hz2
    have bYV : Below Y.heap.size Y V6 := hb6.trans (b6V.mono hb6.size)
    have bV6 : Below W.heap.size W V6 := bY.trans (bYV.mono bY.size)
    obtain ⟨c0, c1, c2⟩ := KC.out _ bV6
    go_upto_region 8 with (go_at_call 18; refine (hRec3 _).mono ?_; rintro e w7 ⟨rfl, hb7⟩)
    obtain ⟨V7, hV7⟩ : ∃ V : World, V = w7.alloc (.cells #[.slice none 0 0, .int .i64 0] 46) := ⟨_, rfl⟩
    have b7V : Below w7.heap.size w7 V7 := by rw [hV7]; exact (Below.refl _ _).alloc (Nat.le_refl _) _
    rw [← hV7]
    clear hV7 c0 c1 c2 hRec3
    have b67 : Below V6.heap.size V6 V7 := hb7.trans (b7V.mono hb7.size)
    have bY7 : Below Y.heap.size Y V7 := bYV.trans (b67.mono bYV.size)
    have bX7 : Below X.heap.size X V7 := bF.trans (bY7.mono bF.size)
    have bW7 : Below W.heap.size W V7 := bX.trans (bX7.mono bX.size)
    obtain ⟨t1, t2, t3, t4, t5, t6⟩ := hTA.out gs hs2 k q q2 hk hAl hAl2
    subst t4
    rw [List.take_take, Nat.min_self] at hIv
    have hRg7 := hRg.below bY7
    have hRy7 := hRX.below bX7
    have hIu7 := hIu.below bY7
    have hIv7 := hIv.below (b6V.trans (b67.mono b6V.size))
    have u0 : V7.cell? ⟨qb, 0, none⟩ = some (.slice ua q2 q2) := ((bxU.below bY7 qlt).c 0 (by omega)).1
    have v0 : V7.cell? ⟨w6.heap.size, 0, none⟩ = some (.slice va q2 q2) := ((vb.below b67 vb.lt).c 0 (by omega)).1
    have m7 : V7.cell? ⟨w3.heap.size, 0, none⟩ = some (.slice ta tl tc) := (bX7.cell (p := ⟨w3.heap.size, 0, none⟩) xlt).trans m0
    have T3 : Hid ((hs2.length : Int) = (gs.length : Int)) := by show _ = _; omega
    have T5 : Hid ((q2 : Int) ≤ (k : Int)) := by show (q2 : Int) ≤ (k : Int); omega
    have hBg := fun U h1 h2 => begins_any ga ao gs.length ys.length gc cpo gs ys U h1 h2 t1 t2
    clear t2 hTA t3
    have hcase : Hid ((gs.length : Int) = (ys.length : Int) ∧ (k : Int) = (tl : Int) ∧ ((gs.length : Int) == (ys.length : Int)) = true ∧ ((k : Int) == (tl : Int)) = true) ∨ Hid (¬ (gs.length : Int) = (ys.length : Int) ∧ ¬ (k : Int) = (tl : Int) ∧ ((gs.length : Int) == (ys.length : Int)) = false ∧ ((k : Int) == (tl : Int)) = false) := by
      by_cases hfull : gs.length = ys.length
      · rw [decide_eq_true hfull] at t6
        have hkt : k = tl := of_decide_eq_true t6.symm
        exact .inl (show _ ∧ _ from ⟨by omega, by omega, by simp [hfull], by simp [hkt]⟩)
      · rw [decide_eq_false hfull] at t6
        have hkt : ¬ k = tl := of_decide_eq_false t6.symm
        exact .inr (show _ ∧ _ from ⟨by omega, by omega, by simp; omega, by simp; omega⟩)
    clear t6 t1 t5 hk hAl hAl2 hRg hIu hIv hRh
    have zq : qb < V7.heap.size := Nat.lt_of_lt_of_le qlt bY7.size
    have z6 : w6.heap.size < V7.heap.size := Nat.lt_of_lt_of_le vb.lt b67.size
    have zx : w3.heap.size < V7.heap.size := Nat.lt_of_lt_of_le xlt bX7.size
    rcases hcase with HF | HF
    · skip
      go_wp2_with (go_at_call 19; refine (hBg _ hRg7 hRy7).mono ?_; rintro e w8 ⟨rfl, hb8⟩; have y0 := (hb8.cell (p := ⟨qb, 0, none⟩) zq).trans u0; have y1 := (hb8.cell (p := ⟨w6.heap.size, 0, none⟩) z6).trans v0; have y2 := (hb8.cell (p := ⟨w3.heap.size, 0, none⟩) zx).trans m7; have r1 := run_string (hIu7.below hb8); have r2 := run_string (hIv7.below hb8); have t3 := T3.out; have t5 := T5.out; obtain ⟨f1, f2, f3, f4⟩ := HF.out)
      go_ret
      exact ⟨by first | rfl | simp, KB.out _ (bW7.trans (hb8.mono bW7.size))⟩
    · skip
      go_wp2_with (go_at_call 19; refine (hBg _ hRg7 hRy7).mono ?_; rintro e w8 ⟨rfl, hb8⟩; have y0 := (hb8.cell (p := ⟨qb, 0, none⟩) zq).trans u0; have y1 := (hb8.cell (p := ⟨w6.heap.size, 0, none⟩) z6).trans v0; have y2 := (hb8.cell (p := ⟨w3.heap.size, 0, none⟩) zx).trans m7; have r1 := run_string (hIu7.below hb8); have r2 := run_string (hIv7.below hb8); have t3 := T3.out; have t5 := T5.out; obtain ⟨f1, f2, f3, f4⟩ := HF.out)
      go_ret
      exact ⟨by first | rfl | simp, KB.out _ (bW7.trans (hb8.mono bW7.size))⟩
end Go.Proofs.YtfloplkepmpaiaaDoor
/- The law TapeOn at every argument. -/
namespace Go.Proofs.YtfloplkepmpaiaaDoor
open Go.ChangeShapes Go.WideShapes Go.ChangeAt Go.RowKit
set_option linter.unusedVariables false

/-- What is known behind the crash, the recovery, one record more and the recovery again. -/
structure OnAll (gs al : List RcV) (x : RcV) : Prop where
  len : al.length = gs.length + 1
  same : ∀ i, i < gs.length → (gs.getD i default).bare = (al.getD i default).bare
  last : (al.getD gs.length default).bare = x.bare
theorem on_all {S : Int} {L : List (Int × Int)} {P : Int} {ys gs al : List RcV} {x : RcV} {N q q2 : Nat} (hg : ∀ y ∈ ys, recFault S L P y = 0 ∧ y.sites.length = y.sl) (hx : recFault S L P x = 0 ∧ x.sites.length = x.sl) (hN : N ≤ (tapeOf ys).length)
    (h1 : AllOf S L P ((tapeOf ys).take N) gs q) (h2 : AllOf S L P ((((tapeOf ys).take N).take q) ++ (((recBytes x).length : Int) :: recBytes x)) al q2) : OnAll gs al x := by
  obtain ⟨j, hT⟩ := torn_any ys hg N hN
  have e1 := h1.1
  have e2 := h1.2
  rw [hT.recs, map_pl_pl] at e1
  rw [hT.num] at e2
  obtain ⟨hl, hsame⟩ := alike hT.le e1
  have hb : ((tapeOf ys).take N).take q = tapeOf (ys.take j) := by rw [← e2]; exact hT.bytes
  have hb2 : tapeOf (ys.take j) ++ (((recBytes x).length : Int) :: recBytes x) = tapeOf (ys.take j ++ [x]) := by rw [tapeOf_app]; simp [tapeOf]
  have hgj : ∀ y ∈ ys.take j ++ [x], recFault S L P y = 0 ∧ y.sites.length = y.sl := fun y hy => by
    rcases List.mem_append.1 hy with hy | hy
    · exact hg y (List.mem_of_mem_take hy)
    · simp at hy; subst hy; exact hx
  have hw := whole_full (s := S) (ls := L) (p := P) (ys.take j ++ [x]) hgj
  have e3 := h2.1
  rw [hb, hb2, hw] at e3
  simp only [map_pl_pl] at e3
  have hlj : (ys.take j).length = j := by rw [List.length_take]; exact Nat.min_eq_left hT.le
  have e4 : al.map RcV.pl = ((ys.take j ++ [x]).take (ys.take j ++ [x]).length).map RcV.pl := by rw [List.take_length]; exact e3
  obtain ⟨hla, hsa⟩ := alike (Nat.le_refl _) e4
  have hla' : al.length = j + 1 := by rw [hla]; simp; have := hT.le; omega
  refine ⟨by omega, fun i hi => ?_, ?_⟩
  · rw [hsame i hi, hsa i (by omega)]
    have hij : i < (ys.take j).length := by omega
    have hiy : i < ys.length := by have := hT.le; omega
    have hij2 : i < j := by omega
    simp [List.getD, List.getElem?_append_left hij, hiy, hij2]
  · rw [hsa gs.length (by omega), hl]
    simp [List.getD, hlj]

set_option maxRecDepth 100000 in
set_option maxHeartbeats 8000000 in
theorem tapeOn_walk (s : Int) (a : Option Addr) (len cap : Nat) (zs : List Int) (aa : Option Addr) (alen acap : Nat) (rs : List RV) (keep : Int) (rv : RV) (w : World) (hs : (Lit.int .i64 s).wf = true) (h : IsInts w a len cap zs) (hx : IsRaws w aa alen acap rs) (hke : (Lit.int .i64 keep).wf = true) (hrv : rv.ok) (hm : HasAt w 2 rHas) (hwd : WidsAt w) (ht : TopsAt w) :
    Calls Tryd.prog 6 #[.int .i64 s, .slice a len cap, .slice aa alen acap, .int .i64 keep, .agg #[.int .i64 rv.kd, .int .i64 rv.ra, .int .i64 rv.rb, .int .i64 rv.rc, .int .i64 rv.rd, .int .i64 rv.re]] w fun e w' => e = .returned (.bool true) ∧ Below w.heap.size w w' := by
  have hke' := i64_bd hke
  obtain ⟨kd, ra, rb, rc, rd, re⟩ := rv
  obtain ⟨hkd, hra, hrb, hrc, hrd, hre⟩ := hrv
  simp only at *
  obtain ⟨w0, hw0⟩ : ∃ W : World, W = w.alloc (.cells #[.int .i64 kd, .int .i64 ra, .int .i64 rb, .int .i64 rc, .int .i64 rd, .int .i64 re] 24) := ⟨_, rfl⟩
  have hB0 : Below w.heap.size w w0 := by rw [hw0]; exact (Below.refl _ _).alloc (Nat.le_refl _) _
  have zr : w.heap.size < w0.heap.size := by rw [hw0]; simp
  have k0 : w0.cell? ⟨w.heap.size, 0, none⟩ = some (.int .i64 kd) := by rw [hw0]; go_simp
  have k1 : w0.cell? ⟨w.heap.size, 1, none⟩ = some (.int .i64 ra) := by rw [hw0]; go_simp
  have k2 : w0.cell? ⟨w.heap.size, 2, none⟩ = some (.int .i64 rb) := by rw [hw0]; go_simp
  have k3 : w0.cell? ⟨w.heap.size, 3, none⟩ = some (.int .i64 rc) := by rw [hw0]; go_simp
  have k4 : w0.cell? ⟨w.heap.size, 4, none⟩ = some (.int .i64 rd) := by rw [hw0]; go_simp
  have k5 : w0.cell? ⟨w.heap.size, 5, none⟩ = some (.int .i64 re) := by rw [hw0]; go_simp
  have h0 := h.below hB0
  have hs' := i64_bd hs
  have hgT : 3 < w.heap.size := World.block_lt_of_cell? w _ ht.1
  have hgM : 2 < w.heap.size := hm.lt (by decide)
  have hgW : 1 < w.heap.size := hwd.lt
  have hCfg := fun w' h' => cfg_good s a len cap zs w' hs' h'
  go_enter Tryd.func6, Tryd.ntmps6
  go_upto_region 1 with (fail)
  rw [← hw0]
  clear hw0
  go_upto_region 2 with (go_at_call 8; refine (hCfg _ h0).mono ?_; rintro e w1 ⟨S, P, g, n, cp, L, rfl, hC1, hb1⟩)
  obtain ⟨W, hW⟩ : ∃ W : World, W = w1.alloc (.cells #[.int .i64 S, .slice (some ⟨g, 0, none⟩) n cp, .int .i64 P] 27) := ⟨_, rfl⟩
  have zW : w1.heap.size < W.heap.size := by rw [hW]; simp
  have c0 : W.cell? ⟨w1.heap.size, 0, none⟩ = some (.int .i64 S) := by rw [hW]; go_simp
  have c1 : W.cell? ⟨w1.heap.size, 1, none⟩ = some (.slice (some ⟨g, 0, none⟩) n cp) := by rw [hW]; go_simp
  have c2 : W.cell? ⟨w1.heap.size, 2, none⟩ = some (.int .i64 P) := by rw [hW]; go_simp
  have hBW : Below w1.heap.size w1 W := by rw [hW]; exact (Below.refl _ _).alloc (Nat.le_refl _) _
  rw [← hW]
  clear hW
  have hCW := hC1.below hBW
  have hB0W : Below w0.heap.size w0 W := hb1.trans (hBW.mono hb1.size)
  have hBw : Below w.heap.size w W := hB0.trans (hB0W.mono hB0.size)
  have hok := hCW.ok
  have KC : Hid (∀ U : World, Below W.heap.size W U → U.cell? ⟨w1.heap.size, 0, none⟩ = some (.int .i64 S) ∧ U.cell? ⟨w1.heap.size, 1, none⟩ = some (.slice (some ⟨g, 0, none⟩) n cp) ∧ U.cell? ⟨w1.heap.size, 2, none⟩ = some (.int .i64 P)) := by
    intro U hU
    exact ⟨(hU.cell (p := ⟨w1.heap.size, 0, none⟩) (by show w1.heap.size < _; omega)).trans c0, (hU.cell (p := ⟨w1.heap.size, 1, none⟩) (by show w1.heap.size < _; omega)).trans c1, (hU.cell (p := ⟨w1.heap.size, 2, none⟩) (by show w1.heap.size < _; omega)).trans c2⟩
  have KB : Hid (∀ U : World, Below W.heap.size W U → Below w.heap.size w U) := fun U hU => hBw.trans (hU.mono hBw.size)
  have KS : Hid (∀ U : World, Below W.heap.size W U → IsLabs U (some ⟨g, 0, none⟩) n cp L ∧ HasAt U 2 rHas ∧ TopsAt U ∧ WidsAt U) := fun U hU => ⟨hCW.labs.below hU, hm.below (KB.out U hU) hgM, ht.below (KB.out U hU) hgT, hwd.below (KB.out U hU) hgW⟩
  have KR : Hid (∀ U : World, Below W.heap.size W U → IsRaws U aa alen acap rs) := fun U hU => hx.below (KB.out U hU)
  have KK : Hid (∀ U : World, Below W.heap.size W U → U.cell? ⟨w.heap.size, 0, none⟩ = some (.int .i64 kd) ∧ U.cell? ⟨w.heap.size, 1, none⟩ = some (.int .i64 ra) ∧ U.cell? ⟨w.heap.size, 2, none⟩ = some (.int .i64 rb) ∧ U.cell? ⟨w.heap.size, 3, none⟩ = some (.int .i64 rc) ∧ U.cell? ⟨w.heap.size, 4, none⟩ = some (.int .i64 rd) ∧ U.cell? ⟨w.heap.size, 5, none⟩ = some (.int .i64 re)) := fun U hU => by
    have hv := hB0W.trans (hU.mono hB0W.size)
    exact ⟨(hv.cell (p := ⟨w.heap.size, 0, none⟩) zr).trans k0, (hv.cell (p := ⟨w.heap.size, 1, none⟩) zr).trans k1, (hv.cell (p := ⟨w.heap.size, 2, none⟩) zr).trans k2, (hv.cell (p := ⟨w.heap.size, 3, none⟩) zr).trans k3, (hv.cell (p := ⟨w.heap.size, 4, none⟩) zr).trans k4, (hv.cell (p := ⟨w.heap.size, 5, none⟩) zr).trans k5⟩
  clear k0 k1 k2 k3 k4 k5
  have KSL : Hid (∀ U : World, Below W.heap.size W U → IsLabs U (some ⟨g, 0, none⟩) n cp L) := fun U hU => (KS.out U hU).1
  have KSM : Hid (∀ U : World, Below W.heap.size W U → HasAt U 2 rHas) := fun U hU => (KS.out U hU).2.1
  have KST : Hid (∀ U : World, Below W.heap.size W U → TopsAt U) := fun U hU => (KS.out U hU).2.2.1
  have KSW : Hid (∀ U : World, Below W.heap.size W U → WidsAt U) := fun U hU => (KS.out U hU).2.2.2
  have hD : Below W.heap.size W W.drew := (Below.refl _ _).drew
  have hRecs := fun w' h' => records_any S P (some ⟨g, 0, none⟩) n cp L aa alen acap rs 20 w' hok hCW.s1 hCW.s3 h' (by omega)
  have hTap := fun ao cpo ys w' h1 h2 h3 h4 h5 h6 h7 => taped_any S P (some ⟨g, 0, none⟩) n cp L ao (List.length ys) cpo ys w' h1 h2 h3 h4 h5 h6 h7
  have hRG := fun w' => rec_good S P (some ⟨g, 0, none⟩) n cp L kd ra rb rc rd re w' hok hCW.s1 hCW.s3 hkd hra hrb hrc hrd hre
  obtain ⟨q0, q1, q2⟩ := KC.out _ (Below.refl _ _)
  clear c0 c1 c2
  go_cut [12, 13] (fun s12 s13 wc => ∃ (q : Nat) (ta : Option Addr) (tl tc : Nat) (ys : List RcV), s12 = .pointer (some ⟨q, 0, none⟩) ∧ s13 = .bool true ∧ (∀ y ∈ ys, recFault S L P y = 0 ∧ y.sites.length = y.sl) ∧ BoxN wc q 2 [.slice ta tl tc, .int .i64 0] ∧ IsB wc ta tl tc (tapeOf ys) ∧ tl ≤ 625 ∧ (∀ b off, ta = some ⟨b, off, none⟩ → b ≠ q) ∧ W.heap.size ≤ q ∧ Below W.heap.size W wc)
  case first =>
    go_region_held3 (fun U => U.cell? ⟨w1.heap.size, 0, none⟩ = some (.int .i64 S) ∧ U.cell? ⟨w1.heap.size, 1, none⟩ = some (.slice (some ⟨g, 0, none⟩) n cp) ∧ U.cell? ⟨w1.heap.size, 2, none⟩ = some (.int .i64 P))
      (exact KC.out _ (by (with_reducible repeat (first | exact hu3 | exact hu2 | exact hD | exact Below.refl _ _ | refine bD ?_ | refine bA ?_ _ | refine bS ?_ (by omega) _)); done))
      (first
        | ((go_at_call 13; refine (hRecs _ (KR.out _ (by (with_reducible repeat (first | exact hu2 | exact hD | exact Below.refl _ _ | refine bD ?_ | refine bA ?_ _ | refine bS ?_ (by omega) _)); done))).mono ?_; rintro e u2 ⟨ao, cpo, ys, rfl, hR2, hg2, h25, hb2'⟩; have hu2 : Below W.heap.size W u2 := bT (by (with_reducible repeat (first | exact hu2 | exact hD | exact Below.refl _ _ | refine bD ?_ | refine bA ?_ _ | refine bS ?_ (by omega) _)); done) hb2'; have z2 : W.heap.size ≤ u2.heap.size := hu2.size; (first | (have bx2 : BoxN u2 W.heap.size 2 [.slice none 0 0, .int .i64 0] := (boxn_new W.drew #[.slice none 0 0, .int .i64 0] 46 2 rfl).below hb2' (by simp)) | (have bx2 : BoxN u2 W.heap.size 2 [.slice none 0 0, .int .i64 0] := (boxn_new W #[.slice none 0 0, .int .i64 0] 46 2 rfl).below hb2' (by simp)) | skip)))
        | ((go_at_call 14; refine (hTap ao cpo ys _ (KSL.out _ (by (with_reducible repeat (first | exact hu2 | exact hD | exact Below.refl _ _ | refine bD ?_ | refine bA ?_ _ | refine bS ?_ (by omega) _)); done)) (by first | exact hR2 | exact hR2.below ((Below.refl _ _).alloc (Nat.le_refl _) _)) hg2 h25 (KSM.out _ (by (with_reducible repeat (first | exact hu2 | exact hD | exact Below.refl _ _ | refine bD ?_ | refine bA ?_ _ | refine bS ?_ (by omega) _)); done)) (KST.out _ (by (with_reducible repeat (first | exact hu2 | exact hD | exact Below.refl _ _ | refine bD ?_ | refine bA ?_ _ | refine bS ?_ (by omega) _)); done)) (KSW.out _ (by (with_reducible repeat (first | exact hu2 | exact hD | exact Below.refl _ _ | refine bD ?_ | refine bA ?_ _ | refine bS ?_ (by omega) _)); done))).mono ?_; rintro e u3 ⟨ta, tl, tc, rfl, hI3, htl, hnew3, hb3'⟩; have hu3 : Below W.heap.size W u3 := bT (by (with_reducible repeat (first | exact hu2 | exact hD | exact Below.refl _ _ | refine bD ?_ | refine bA ?_ _ | refine bS ?_ (by omega) _)); done) hb3'; have z3 : W.heap.size ≤ u3.heap.size := hu3.size; (first | (have bx3 := bx2.below hb3' bx2.lt; have hne3 : ∀ b off, ta = some ⟨b, off, none⟩ → b ≠ W.heap.size := fun b off e => Ne.symm (Nat.ne_of_lt (Nat.lt_of_lt_of_le bx2.lt (hnew3 b off e).1)); have zq : W.heap.size ≤ W.heap.size := Nat.le_refl _; have s0 : _ = some (Value.slice none 0 0) := (bx3.c 0 (by omega)).1; have g0 := (bx3.c 0 (by omega)).2; have s1 : _ = some (Value.int .i64 0) := (bx3.c 1 (by omega)).1; have g1 := (bx3.c 1 (by omega)).2) | (have bx3 : BoxN u3 u2.heap.size 2 [.slice none 0 0, .int .i64 0] := (boxn_new u2 #[.slice none 0 0, .int .i64 0] 46 2 rfl).below hb3' (by simp); have hne3 : ∀ b off, ta = some ⟨b, off, none⟩ → b ≠ u2.heap.size := fun b off e => Ne.symm (Nat.ne_of_lt (Nat.lt_of_lt_of_le (by simp) (hnew3 b off e).1)); have s0 : _ = some (Value.slice none 0 0) := (bx3.c 0 (by omega)).1; have g0 := (bx3.c 0 (by omega)).2; have s1 : _ = some (Value.int .i64 0) := (bx3.c 1 (by omega)).1; have g1 := (bx3.c 1 (by omega)).2) | skip))))
    all_goals
      have HI3 : Hid (IsB u3 ta tl tc (tapeOf ys)) := hI3
      have hGy : ∀ y ∈ ys, recFault S L P y = 0 ∧ y.sites.length = y.sl := fun y hy => ⟨hg2 y hy, (hR2.2.2.2.1 y hy).1⟩
      first
        | (have bxF := (bx3.set 0 (by omega) (.slice ta tl tc)).set 1 (by omega) (.int .i64 0))
        | (have bxF : BoxN _ u3.heap.size 2 [.slice ta tl tc, .int .i64 0] := boxn_new u3 #[.slice ta tl tc, .int .i64 0] 46 2 rfl
           have hne3 : ∀ b off, ta = some ⟨b, off, none⟩ → b ≠ u3.heap.size := fun b off e => Nat.ne_of_lt (hnew3 b off e).2)
      go_wp2_with fail
      go_meet
      case rel => exact ⟨_, ta, tl, tc, ys, rfl, rfl, hGy, bxF, (by (with_reducible repeat (first | exact HI3.out | exact hne3 | refine IsB.set ?_ _ _ ?_ | refine isB_alloc ?_ _)); done), htl, hne3, (by omega), (by (with_reducible repeat (first | exact hu3 | exact hu2 | exact hD | exact Below.refl _ _ | refine bD ?_ | refine bA ?_ _ | refine bS ?_ (by omega) _)); done)⟩
  case rest =>
    obtain ⟨q, ta, tl, tc, ys, rfl, rfl, hGy0, bxF, hI, htl, hneq0, zq, bF⟩ := hcut
    have hGy : Hid (∀ y ∈ ys, recFault S L P y = 0 ∧ y.sites.length = y.sl) := hGy0
    have hneq : Hid (∀ b off, ta = some ⟨b, off, none⟩ → b ≠ q) := hneq0
    clear hGy0 hneq0 hRecs hTap KR q0 q1 q2
    obtain ⟨X, eX⟩ : ∃ X, X = wc := ⟨_, rfl⟩
    rw [← eX] at bxF hI bF ⊢
    clear eX
    have hpk := fun w' => picked_any keep 200 w' hke' (by decide) (by decide)
    have pb := pk_bd keep 200 (by decide)
    obtain ⟨kn, ek⟩ : ∃ j : Nat, pk keep 200 = j := ⟨(pk keep 200).toNat, by omega⟩
    rw [ek] at hpk pb
    clear ek
    have hkn : kn < 200 := by omega
    clear pb
    have hmay : mayT tl 0 = true := by simp [mayT]; omega
    obtain ⟨N, eN⟩ : ∃ N, N = crN tl 0 (kn : Int) := ⟨_, rfl⟩
    have hNle : N ≤ tl := by rw [eN]; exact crN_le hmay (by omega)
    have hCr := fun w' h' => crash_any ta tl tc (tapeOf ys) 0 (kn : Int) w' h' (by omega)
    have e0 : crErr tl 0 (kn : Int) = 0 := by unfold crErr; rw [hmay]; simp
    unfold crBs crY at hCr
    rw [e0, ← eN] at hCr
    simp only [if_true] at hCr
    clear eN e0 hmay
    have hlen : (tapeOf ys).length = tl := hI.1
    have HN : Hid (N ≤ (tapeOf ys).length) := by show _ ≤ _; omega
    have hNl : N ≤ (tapeOf ys).length := HN.out
    clear hlen
    have hOA : Hid (∀ (gs al : List RcV) (x : RcV) (q q2 : Nat), recFault S L P x = 0 ∧ x.sites.length = x.sl → AllOf S L P ((tapeOf ys).take N) gs q → AllOf S L P ((((tapeOf ys).take N).take q) ++ (((recBytes x).length : Int) :: recBytes x)) al q2 → OnAll gs al x) := fun gs al x q q2 hx h1 h2 => on_all hGy.out hx HN.out h1 h2
    obtain ⟨tb, etb⟩ : ∃ tb, tb = tapeOf ys := ⟨_, rfl⟩
    rw [← etb] at hI hOA hCr hNl
    clear etb hGy HN
    have qlt := bxF.lt
    have HB : Hid (BoxN X q 2 [.slice ta tl tc, .int .i64 0]) := bxF
    have hDX : Below X.heap.size X X.drew := (Below.refl _ _).drew
    have KX : Hid (∀ U : World, Below X.heap.size X U → BoxN U q 2 [.slice ta tl tc, .int .i64 0] ∧ IsB U ta tl tc tb) := fun U hU => ⟨bxF.below hU qlt, hI.below hU⟩
    have m0 : X.drew.cell? ⟨q, 0, none⟩ = some (.slice ta tl tc) := ((KX.out _ hDX).1.c 0 (by omega)).1
    have m1 : X.drew.cell? ⟨q, 1, none⟩ = some (.int .i64 0) := ((KX.out _ hDX).1.c 1 (by omega)).1
    have f0 : X.drew.frozen? ⟨q, 0, none⟩ = false := ((KX.out _ hDX).1.c 0 (by omega)).2
    have f1 : X.drew.frozen? ⟨q, 1, none⟩ = false := ((KX.out _ hDX).1.c 1 (by omega)).2
    have hIX := (KX.out _ hDX).2
    clear bxF hI
    go_upto_region 3 with (fail)
    go_cut [14] (fun s14 wc => s14 = .int .i64 0 ∧ ∃ (ca : Option Addr) (cl cc : Nat), BoxN wc q 2 [.slice ca cl cc, .int .i64 (N : Int)] ∧ IsB wc ca cl cc (tb.take N) ∧ Below W.heap.size W wc)
    case first =>
      clear hOA hRG
      rename_i K0 hK0 J0 K1 hJ0 hM0
      clear hK0
      go_region_with (first
        | ((go_at_call 12; refine (hpk _).mono ?_; rintro e v ⟨rfl, hv⟩; rw [hv]; clear hv v))
        | ((go_at_call 17; refine (hCr _ hIX).mono ?_; rintro e w5 ⟨a5, l5, c5, rfl, hI5, hnew5, hb5⟩; have HI5 : Hid (IsB w5 a5 l5 c5 (tb.take N)) := hI5; have hX5 : Below X.heap.size X w5 := hDX.trans (hb5.mono hDX.size); have HW5 : Hid (Below W.heap.size W w5) := bT bF hX5; have H5 : Hid (∀ b off, a5 = some ⟨b, off, none⟩ → b ≠ q) := (fun b off e => Nat.ne_of_gt (Nat.lt_of_lt_of_le qlt (hnew5 b off e))); clear hI5 hnew5; have bx5 := (KX.out _ hX5).1; have y0 : _ = some (Value.slice ta tl tc) := (bx5.c 0 (by omega)).1; have y1 : _ = some (Value.int .i64 0) := (bx5.c 1 (by omega)).1; have g0 := (bx5.c 0 (by omega)).2; have g1 := (bx5.c 1 (by omega)).2)))
      all_goals
        go_wp2_with fail
        go_meet
        case rel => exact ⟨rfl, a5, l5, c5, (bx5.set 0 (by omega) (.slice a5 l5 c5)).set 1 (by omega) (.int .i64 (N : Int)), (HI5.out.set _ _ H5.out).set _ _ H5.out, bS (bS HW5.out zq _) zq _⟩
    case rest =>
      obtain ⟨rfl, ca, cl, cc, bxC, hIC, bY⟩ := hcut
      obtain ⟨Y, eY⟩ : ∃ Y, Y = wc := ⟨_, rfl⟩
      rw [← eY] at bxC hIC bY ⊢
      clear eY m0 m1 f0 f1 hIX HB KX hpk hCr
      have hclN : cl = N := by have := hIC.1; have h2 := hNl; simp at this; omega
      subst hclN
      have hm1 : mayT cl (cl : Int) = true := by simp [mayT]; omega
      have hR1 := fun U h1 h2 h3 h4 h5 => recover_ok S P (some ⟨g, 0, none⟩) n cp L ca cl cc (tb.take cl) (cl : Int) U h1 h2 hm1 hok h3 h4 h5
      obtain ⟨c0, c1, c2⟩ := KC.out _ bY
      obtain ⟨s1, s2, s3, s4⟩ := KS.out _ bY
      have u0 : Y.cell? ⟨q, 0, none⟩ = some (.slice ca cl cc) := (bxC.c 0 (by omega)).1
      have u1 : Y.cell? ⟨q, 1, none⟩ = some (.int .i64 (cl : Int)) := (bxC.c 1 (by omega)).1
      go_upto_region 5 with (go_at_call 18; refine (hR1 _ s1 hIC s2 s3 s4).mono ?_; rintro e w6 ⟨ga, gc, gs, q6, ua, z6, rfl, hRg, hAl, hq6, hIu, hz6, hnU, hnA, hnS, hb6⟩; have hz' : z6 = (q6 : Int) := (by rw [hz6]; split <;> omega); clear hz6 hnU hnA hnS; subst hz')
      clear hR1
      obtain ⟨V6, hV6⟩ : ∃ V : World, V = w6.alloc (.cells #[.slice ua q6 q6, .int .i64 (q6 : Int)] 46) := ⟨_, rfl⟩
      have b6V : Below w6.heap.size w6 V6 := by rw [hV6]; exact (Below.refl _ _).alloc (Nat.le_refl _) _
      have vb : BoxN V6 w6.heap.size 2 [.slice ua q6 q6, .int .i64 (q6 : Int)] := by rw [hV6]; simpa using boxn_new w6 #[.slice ua q6 q6, .int .i64 (q6 : Int)] 46 2 rfl
      rw [← hV6]
      clear hV6 c0 c1 c2 u0 u1 s1 s2 s3 s4
      have bYV : Below Y.heap.size Y V6 := hb6.trans (b6V.mono hb6.size)
      have bV6 : Below W.heap.size W V6 := bY.trans (bYV.mono bY.size)
      have hRg6 := hRg.below b6V
      have hIu6 := hIu.below b6V
      clear hRg hIu bxC hIC
      obtain ⟨c0, c1, c2⟩ := KC.out _ bV6
      obtain ⟨k0, k1, k2, k3, k4, k5⟩ := KK.out _ bV6
      go_upto_region 6 with (go_at_call 20; refine (hRG _).mono ?_; rintro e w7 ⟨⟨kind, site, num, key, value, ask, yes, sa, sl, sc, sites⟩, rfl, hG, hb7⟩; simp only [RcV.val])
      have hGi : IsInts w7 sa sl sc sites := hG.ints
      have hGo : recFault S L P ⟨kind, site, num, key, value, ask, yes, sa, sl, sc, sites⟩ = 0 := hG.ok
      clear hG hRG k0 k1 k2 k3 k4 k5 c0 c1 c2
      obtain ⟨V7, hV7⟩ : ∃ V : World, V = w7.alloc (.cells #[.int .i64 kind, .int .i64 site, .int .i64 num, .int .i64 key, .int .i64 value, .int .i64 ask, .bool yes, .slice sa sl sc] 53) := ⟨_, rfl⟩
      have b7V : Below w7.heap.size w7 V7 := by rw [hV7]; exact (Below.refl _ _).alloc (Nat.le_refl _) _
      have xb : BoxN V7 w7.heap.size 8 [.int .i64 kind, .int .i64 site, .int .i64 num, .int .i64 key, .int .i64 value, .int .i64 ask, .bool yes, .slice sa sl sc] := by rw [hV7]; simpa using boxn_new w7 #[.int .i64 kind, .int .i64 site, .int .i64 num, .int .i64 key, .int .i64 value, .int .i64 ask, .bool yes, .slice sa sl sc] 53 8 rfl
      rw [← hV7]
      clear hV7
      have b67 : Below V6.heap.size V6 V7 := hb7.trans (b7V.mono hb7.size)
      have bV7 : Below W.heap.size W V7 := bV6.trans (b67.mono bV6.size)
      have hX7 := hGi.below b7V
      have hRg7 := hRg6.below b67
      have hIu7 := hIu6.below b67
      have vb7 := vb.below b67 vb.lt
      clear hGi hRg6 hIu6
      have hgx : recFault S L P ⟨kind, site, num, key, value, ask, yes, sa, sl, sc, sites⟩ = 0 ∧ sites.length = sl := ⟨hGo, hX7.1⟩
      have hbd := recBytes_bd (r := ⟨kind, site, num, key, value, ask, yes, sa, sl, sc, sites⟩) hgx.1 hgx.2
      have hOx : Hid (∀ (al : List RcV) (q2 : Nat), AllOf S L P (((tb.take cl).take q6) ++ (((recBytes ⟨kind, site, num, key, value, ask, yes, sa, sl, sc, sites⟩).length : Int) :: recBytes ⟨kind, site, num, key, value, ask, yes, sa, sl, sc, sites⟩)) al q2 → OnAll gs al ⟨kind, site, num, key, value, ask, yes, sa, sl, sc, sites⟩) := fun al q2 h2 => hOA.out gs al _ q6 q2 hgx hAl h2
      have hAp := fun U h1 h2 h3 h4 h5 h6 => append_any S P (some ⟨g, 0, none⟩) n cp L ua q6 q6 ((tb.take cl).take q6) (q6 : Int) ⟨kind, site, num, key, value, ask, yes, sa, sl, sc, sites⟩ U h1 h2 h3 h4 h5 h6
      have eE : apErr q6 (q6 : Int) (recFault S L P ⟨kind, site, num, key, value, ask, yes, sa, sl, sc, sites⟩) (recBytes ⟨kind, site, num, key, value, ask, yes, sa, sl, sc, sites⟩) = 0 := by
        unfold apErr
        rw [hGo, show mayT q6 (q6 : Int) = true from by simp [mayT]; omega]
        simp
        omega
      rw [eE] at hAp
      simp only [apBs, apY, if_true] at hAp
      obtain ⟨RB, eRB⟩ : ∃ RB, RB = recBytes ⟨kind, site, num, key, value, ask, yes, sa, sl, sc, sites⟩ := ⟨_, rfl⟩
      rw [← eRB] at hAp hOx hbd
      obtain ⟨NB, eNB⟩ : ∃ NB, NB = (tb.take cl).take q6 ++ ((RB.length : Int) :: RB) := ⟨_, rfl⟩
      rw [← eNB] at hAp hOx
      have hnbl : NB.length ≤ q6 + 25 := by rw [eNB]; simp; omega
      have hnbg : q6 ≤ NB.length := by rw [eNB, List.length_append]; have := hIu7.1; omega
      simp only [RcV.val] at hAp
      clear eE eRB eNB hgx hGo hAl hOA
      have m0 : V7.cell? ⟨w7.heap.size, 0, none⟩ = some (.int .i64 kind) := (xb.c 0 (by omega)).1
      have m1 : V7.cell? ⟨w7.heap.size, 1, none⟩ = some (.int .i64 site) := (xb.c 1 (by omega)).1
      have m2 : V7.cell? ⟨w7.heap.size, 2, none⟩ = some (.int .i64 num) := (xb.c 2 (by omega)).1
      have m3 : V7.cell? ⟨w7.heap.size, 3, none⟩ = some (.int .i64 key) := (xb.c 3 (by omega)).1
      have m4 : V7.cell? ⟨w7.heap.size, 4, none⟩ = some (.int .i64 value) := (xb.c 4 (by omega)).1
      have m5 : V7.cell? ⟨w7.heap.size, 5, none⟩ = some (.int .i64 ask) := (xb.c 5 (by omega)).1
      have m6 : V7.cell? ⟨w7.heap.size, 6, none⟩ = some (.bool yes) := (xb.c 6 (by omega)).1
      have m7 : V7.cell? ⟨w7.heap.size, 7, none⟩ = some (.slice sa sl sc) := (xb.c 7 (by omega)).1
      have u0 : V7.cell? ⟨w6.heap.size, 0, none⟩ = some (.slice ua q6 q6) := (vb7.c 0 (by omega)).1
      have u1 : V7.cell? ⟨w6.heap.size, 1, none⟩ = some (.int .i64 (q6 : Int)) := (vb7.c 1 (by omega)).1
      obtain ⟨c0, c1, c2⟩ := KC.out _ bV7
      obtain ⟨s1, s2, s3, s4⟩ := KS.out _ bV7
      go_upto_region 7 with (go_at_call 16; refine (hAp _ s1 hIu7 hX7 s2 s3 s4).mono ?_; rintro e w8 ⟨pa, pl, pc, rfl, hIp, hnP, hb8⟩; clear hnP)
      obtain ⟨V8, hV8⟩ : ∃ V : World, V = w8.alloc (.cells #[.slice pa pl pc, .int .i64 (q6 : Int)] 46) := ⟨_, rfl⟩
      have b8V : Below w8.heap.size w8 V8 := by rw [hV8]; exact (Below.refl _ _).alloc (Nat.le_refl _) _
      have pb : BoxN V8 w8.heap.size 2 [.slice pa pl pc, .int .i64 (q6 : Int)] := by rw [hV8]; simpa using boxn_new w8 #[.slice pa pl pc, .int .i64 (q6 : Int)] 46 2 rfl
      rw [← hV8]
      clear hV8 c0 c1 c2 s1 s2 s3 s4 u0 u1 hAp m0 m1 m2 m3 m4 m5 m6 m7
      have b78 : Below V7.heap.size V7 V8 := hb8.trans (b8V.mono hb8.size)
      have bV8 : Below W.heap.size W V8 := bV7.trans (b78.mono bV7.size)
      have hIp8 := hIp.below b8V
      have hpl : pl ≤ q6 + 25 := by have := hIp.1; omega
      have hpq : q6 ≤ pl := by have := hIp.1; omega
      have hm2 : mayT pl (q6 : Int) = true := by simp [mayT]; omega
      have hR2 := fun U h1 h2 h3 h4 h5 => recover_ok S P (some ⟨g, 0, none⟩) n cp L pa pl pc NB (q6 : Int) U h1 h2 hm2 hok h3 h4 h5
      have p0 : V8.cell? ⟨w8.heap.size, 0, none⟩ = some (.slice pa pl pc) := (pb.c 0 (by omega)).1
      have p1 : V8.cell? ⟨w8.heap.size, 1, none⟩ = some (.int .i64 (q6 : Int)) := (pb.c 1 (by omega)).1
      obtain ⟨c0, c1, c2⟩ := KC.out _ bV8
      obtain ⟨s1, s2, s3, s4⟩ := KS.out _ bV8
      go_upto_region 8 with (go_at_call 18; refine (hR2 _ s1 hIp8 s2 s3 s4).mono ?_; rintro e w9 ⟨la, lc, al, q9, ra9, z9, rfl, hRl, hAl9, hq9, hIr9, hz9, hnU9, hnA9, hnS9, hb9⟩; clear hz9 hnU9 hnA9 hnS9)
      obtain ⟨V9, hV9⟩ : ∃ V : World, V = w9.alloc (.cells #[.slice ra9 q9 q9, .int .i64 z9] 46) := ⟨_, rfl⟩
      have b9V : Below w9.heap.size w9 V9 := by rw [hV9]; exact (Below.refl _ _).alloc (Nat.le_refl _) _
      rw [← hV9]
      clear hV9 c0 c1 c2 s1 s2 s3 s4 p0 p1 hR2
      have b89 : Below V8.heap.size V8 V9 := hb9.trans (b9V.mono hb9.size)
      have b79 : Below V7.heap.size V7 V9 := b78.trans (b89.mono b78.size)
      have bV9 : Below W.heap.size W V9 := bV8.trans (b89.mono bV8.size)
      obtain ⟨o1, o2, o3⟩ := hOx.out al q9 hAl9
      have hRl9 := hRl.below b9V
      rw [o1] at hRl9 ⊢
      have hRg9 := hRg7.below b79
      have hX9 := hX7.below b79
      have xb9 := xb.below b79 xb.lt
      have hBg := fun U h1 h2 => begins_any ga la gs.length (gs.length + 1) gc lc gs al U h1 h2 (by omega) o2
      have HBg : Hid (∀ U, Below V9.heap.size V9 U → Calls Tryd.prog 19 #[.slice ga gs.length gc, .slice la (gs.length + 1) lc] U fun e w' => e = .returned (.bool true) ∧ Below U.heap.size U w') := fun U hU => hBg U (hRg9.below hU) (hRl9.below hU)
      obtain ⟨lb, lo, ela, zlb, hlc⟩ := hRl9.2.2.2.2 (by omega)
      subst ela
      have hcl := hlc gs.length (by omega)
      have hIl := hRl9.2.2.2.1 (al.getD gs.length default) (by simp [List.getD, show gs.length < al.length by omega])
      obtain ⟨y, ey⟩ : ∃ y, y = al.getD gs.length default := ⟨_, rfl⟩
      rw [← ey] at hcl hIl o3
      clear ey
      obtain ⟨kind', site', num', key', value', ask', yes', sa', sl', sc', sites'⟩ := y
      simp [RcV.bare] at o3
      obtain ⟨rfl, rfl, rfl, rfl, rfl, rfl, rfl, rfl, rfl⟩ := o3
      simp only at hIl
      have HSm : Hid (∀ U, Below V9.heap.size V9 U → Calls Tryd.prog 21 #[.agg #[.int .i64 kind', .int .i64 site', .int .i64 num', .int .i64 key', .int .i64 value', .int .i64 ask', .bool yes', .slice sa' sl' sc'], .agg #[.int .i64 kind', .int .i64 site', .int .i64 num', .int .i64 key', .int .i64 value', .int .i64 ask', .bool yes', .slice sa sl' sc]] U fun e w' => e = .returned (.bool true) ∧ Below U.heap.size U w') := fun U hU => sameRecord_any kind' site' num' key' value' ask' yes' sa' sa sl' sc' sc sites' U (hIl.below hU) (hX9.below hU)
      have a0 := hcl 0 (by decide)
      have a1 := hcl 1 (by decide)
      have a2 := hcl 2 (by decide)
      have a3 := hcl 3 (by decide)
      have a4 := hcl 4 (by decide)
      have a5 := hcl 5 (by decide)
      have a6 := hcl 6 (by decide)
      have a7 := hcl 7 (by decide)
      simp [RcV.cells] at a0 a1 a2 a3 a4 a5 a6 a7
      have x0 : V9.cell? ⟨w7.heap.size, 0, none⟩ = some (.int .i64 kind') := (xb9.c 0 (by omega)).1
      have x1 : V9.cell? ⟨w7.heap.size, 1, none⟩ = some (.int .i64 site') := (xb9.c 1 (by omega)).1
      have x2 : V9.cell? ⟨w7.heap.size, 2, none⟩ = some (.int .i64 num') := (xb9.c 2 (by omega)).1
      have x3 : V9.cell? ⟨w7.heap.size, 3, none⟩ = some (.int .i64 key') := (xb9.c 3 (by omega)).1
      have x4 : V9.cell? ⟨w7.heap.size, 4, none⟩ = some (.int .i64 value') := (xb9.c 4 (by omega)).1
      have x5 : V9.cell? ⟨w7.heap.size, 5, none⟩ = some (.int .i64 ask') := (xb9.c 5 (by omega)).1
      have x6 : V9.cell? ⟨w7.heap.size, 6, none⟩ = some (.bool yes') := (xb9.c 6 (by omega)).1
      have x7 : V9.cell? ⟨w7.heap.size, 7, none⟩ = some (.slice sa sl' sc) := (xb9.c 7 (by omega)).1
      have ra0 := fun d os => cell_regrown a0 d os
      have rx0 := fun d os => cell_regrown x0 d os
      have ra1 := fun d os => cell_regrown a1 d os
      have rx1 := fun d os => cell_regrown x1 d os
      have ra2 := fun d os => cell_regrown a2 d os
      have rx2 := fun d os => cell_regrown x2 d os
      have ra3 := fun d os => cell_regrown a3 d os
      have rx3 := fun d os => cell_regrown x3 d os
      have ra4 := fun d os => cell_regrown a4 d os
      have rx4 := fun d os => cell_regrown x4 d os
      have ra5 := fun d os => cell_regrown a5 d os
      have rx5 := fun d os => cell_regrown x5 d os
      have ra6 := fun d os => cell_regrown a6 d os
      have rx6 := fun d os => cell_regrown x6 d os
      have ra7 := fun d os => cell_regrown a7 d os
      have rx7 := fun d os => cell_regrown x7 d os
      have hl1 : (gs.length : Int) < (gs.length : Int) + 1 := by omega
      have hg6 : (gs.length : Int) + 1 ≤ 9223372036854775807 := by have := hRl9.2.1; have h3 := hRl9.2.2.1; unfold maxLen at h3; omega
      have hwp : IntKind.i64.wrap ((gs.length : Int) + 1) = (gs.length : Int) + 1 := by simp [IntKind.wrap, IntKind.bits, IntKind.signed]; omega
      clear o1 o2 hcl hlc hOx hRl9 hRg9 hX9 hIl hRl hRg7 hX7 xb xb9 hBg hAl9 hIp hIp8 hIu7 hIr9
      refine wp_region_quiet_below (by kernel_rfl) (by kernel_rfl) ?_
      repeat (go_big_quiet_step ((first | (go_at_call 19; exact Calls.regrown_of (HBg.out _ (below_regrown _ _ _))) | (go_at_call 21; exact Calls.regrown_of (HSm.out _ (below_regrown _ _ _))))))
      refine wpQuiet_nil ?_
      intro _ hw'
      obtain ⟨⟨dq, osq⟩, hw''⟩ := hw'
      subst hw''
      have hfin := KB.out _ (bV9.trans ((below_regrown V9 dq osq).mono bV9.size))
      go_wp2
      go_ret
      exact ⟨rfl, hfin⟩
end Go.Proofs.YtfloplkepmpaiaaDoor
