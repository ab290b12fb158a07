/- The law TapeTorn at every argument. -/
import Derived.Test.YtfloplkepmpaiaaDoorM21TapeTorn
import Derived.Test.YtfloplkepmpaiaaDoorM24TapeTorn
import Derived.Test.YtfloplkepmpaiaaDoorM25TapeTorn
namespace Go.Proofs.YtfloplkepmpaiaaDoor
open Go.ChangeShapes Go.WideShapes Go.ChangeAt Go.RowKit
set_option linter.unusedVariables false

theorem pl_pl (r : RcV) : r.pl.pl = r.pl := rfl
theorem map_pl_pl (l : List RcV) : (l.map RcV.pl).map RcV.pl = l.map RcV.pl := by rw [List.map_map]; rfl
/-- Lists whose records are alike, wherever their sites lie. -/
theorem alike {gs ys : List RcV} {j : Nat} (hj : j ≤ ys.length) (h : gs.map RcV.pl = (ys.take j).map RcV.pl) : gs.length = j ∧ ∀ i, i < gs.length → (gs.getD i default).bare = (ys.getD i default).bare := by
  have hl : gs.length = j := by
    have := congrArg List.length h
    simp at this
    omega
  refine ⟨hl, fun i hi => ?_⟩
  have := congrArg (fun l : List RcV => l[i]?) h
  simp only [List.getElem?_map, List.getElem?_take] at this
  have hi' : i < ys.length := by omega
  have hij : i < j := by omega
  simp [hi, hi', hij] at this
  simpa [List.getD, hi, hi', RcV.bare, RcV.pl] using this

theorem cut_same (ta : Option Addr) (tl tc k : Nat) (hk : k ≤ tc) (U : World) : (Instr.sliceAt 29 (.slice ta tl tc) none (some (.int .i64 (k : Int))) (some (.int .i64 (k : Int)))).run Tryd.prog U = .ok (.slice ta k k) U := by
  refine (run_sliceAt_slice (P := Tryd.prog) (w := U) 29 (.slice ta tl tc) none (some (.int .i64 _)) (some (.int .i64 _)) (by kernel_rfl)).trans ?_
  rw [run_slice_hm (P := Tryd.prog) (t := 29) (a := ta) (len := tl) (cap := tc) (w := U) (by kernel_rfl) .i64 .i64 (k : Int) (k : Int) (by omega) (by omega) (by omega)]
  have : (sizeOf (Tryd.prog.elem 29)).run Tryd.prog U = .ok 1 U := by kernel_rfl
  rw [this]
  cases ta <;> simp [sliced, Result.andThen, Addr.add]

theorem tape_build (ta : Option Addr) (k c : Nat) (U : World) : (Instr.build 46 #[(0, .slice ta k c)]).run Tryd.prog U = .ok (.agg #[.slice ta k c, .int .i64 0]) U := by kernel_rfl

/-- What is known behind the two recoveries of a torn tape. -/
structure TornAll (ys gs hs : List RcV) (bs : List Int) (tl k q q2 : Nat) : Prop where
  le : gs.length ≤ ys.length
  same : ∀ i, i < gs.length → (gs.getD i default).bare = (ys.getD i default).bare
  again : hs.length = gs.length
  num : q2 = q
  most : q ≤ k
  full : decide (gs.length = ys.length) = decide (k = tl)
theorem torn_all {S : Int} {L : List (Int × Int)} {P : Int} {ys gs hs : List RcV} {tl k q q2 : Nat} (hg : ∀ y ∈ ys, recFault S L P y = 0 ∧ y.sites.length = y.sl) (htl : (tapeOf ys).length = tl) (hk : k ≤ tl)
    (h1 : AllOf S L P ((tapeOf ys).take k) gs q) (h2 : AllOf S L P (((tapeOf ys).take k).take q) hs q2) : TornAll ys gs hs (((tapeOf ys).take k).take q) tl k q q2 := by
  obtain ⟨j, hT⟩ := torn_any ys hg k (by omega)
  have e1 := h1.1
  have e2 := h1.2
  rw [hT.recs, map_pl_pl] at e1
  rw [hT.num] at e2
  obtain ⟨hl, hsame⟩ := alike hT.le e1
  have hb : ((tapeOf ys).take k).take q = tapeOf (ys.take j) := by rw [← e2]; exact hT.bytes
  have hgj : ∀ y ∈ ys.take j, recFault S L P y = 0 ∧ y.sites.length = y.sl := fun y hy => hg y (List.mem_of_mem_take hy)
  have hw := whole_full (s := S) (ls := L) (p := P) (ys.take j) hgj
  have e3 := h2.1
  have e4 := h2.2
  rw [hb, hw] at e3 e4
  simp only [map_pl_pl] at e3 e4
  have hl2 : hs.length = j := by
    have := congrArg List.length e3
    simp at this
    have := hT.le
    omega
  refine ⟨by rw [hl]; exact hT.le, hsame, by omega, by omega, by have := hT.at_most; omega, ?_⟩
  rw [Bool.eq_iff_iff]
  simp only [decide_eq_true_eq]
  constructor
  · intro e
    have : ys.take j = ys := List.take_of_length_le (by omega)
    have hm := hT.at_most
    rw [this] at hm
    omega
  · intro e
    have h5 := hT.least ys.length (by rw [List.take_length]; omega) (Nat.le_refl _)
    have h6 := hT.le
    omega

set_option maxRecDepth 100000 in
set_option maxHeartbeats 4000000 in
theorem tapeTorn_walk (s : Int) (a : Option Addr) (len cap : Nat) (zs : List Int) (aa : Option Addr) (alen acap : Nat) (rs : List RV) (at' : Int) (w : World) (hs : (Lit.int .i64 s).wf = true) (h : IsInts w a len cap zs) (hx : IsRaws w aa alen acap rs) (hat : (Lit.int .i64 at').wf = true) (hm : HasAt w 2 rHas) (hwd : WidsAt w) (ht : TopsAt w) :
    Calls Tryd.prog 5 #[.int .i64 s, .slice a len cap, .slice aa alen acap, .int .i64 at'] w fun e w' => e = .returned (.bool true) ∧ Below w.heap.size w w' := by
  have hat' := i64_bd hat
  have hs' := i64_bd hs
  have hgT : 3 < w.heap.size := World.block_lt_of_cell? w _ ht.1
  have hgM : 2 < w.heap.size := hm.lt (by decide)
  have hgW : 1 < w.heap.size := hwd.lt
  have hCfg := fun w' h' => cfg_good s a len cap zs w' hs' h'
  go_enter Tryd.func5, Tryd.ntmps5
  go_upto_region 1 with (fail)
  go_upto_region 2 with (go_at_call 8; refine (hCfg _ h).mono ?_; rintro e w1 ⟨S, P, g, n, cp, L, rfl, hC1, hb1⟩)
  obtain ⟨W, hW⟩ : ∃ W : World, W = w1.alloc (.cells #[.int .i64 S, .slice (some ⟨g, 0, none⟩) n cp, .int .i64 P] 27) := ⟨_, rfl⟩
  have zW : w1.heap.size < W.heap.size := by rw [hW]; simp
  have c0 : W.cell? ⟨w1.heap.size, 0, none⟩ = some (.int .i64 S) := by rw [hW]; go_simp
  have c1 : W.cell? ⟨w1.heap.size, 1, none⟩ = some (.slice (some ⟨g, 0, none⟩) n cp) := by rw [hW]; go_simp
  have c2 : W.cell? ⟨w1.heap.size, 2, none⟩ = some (.int .i64 P) := by rw [hW]; go_simp
  have hBW : Below w1.heap.size w1 W := by rw [hW]; exact (Below.refl _ _).alloc (Nat.le_refl _) _
  rw [← hW]
  clear hW
  have hCW := hC1.below hBW
  have hBw : Below w.heap.size w W := hb1.trans (hBW.mono hb1.size)
  have hok := hCW.ok
  have KC : Hid (∀ U : World, Below W.heap.size W U → U.cell? ⟨w1.heap.size, 0, none⟩ = some (.int .i64 S) ∧ U.cell? ⟨w1.heap.size, 1, none⟩ = some (.slice (some ⟨g, 0, none⟩) n cp) ∧ U.cell? ⟨w1.heap.size, 2, none⟩ = some (.int .i64 P)) := by
    intro U hU
    exact ⟨(hU.cell (p := ⟨w1.heap.size, 0, none⟩) (by show w1.heap.size < _; omega)).trans c0, (hU.cell (p := ⟨w1.heap.size, 1, none⟩) (by show w1.heap.size < _; omega)).trans c1, (hU.cell (p := ⟨w1.heap.size, 2, none⟩) (by show w1.heap.size < _; omega)).trans c2⟩
  have KB : Hid (∀ U : World, Below W.heap.size W U → Below w.heap.size w U) := fun U hU => hBw.trans (hU.mono hBw.size)
  have KS : Hid (∀ U : World, Below W.heap.size W U → IsLabs U (some ⟨g, 0, none⟩) n cp L ∧ HasAt U 2 rHas ∧ TopsAt U ∧ WidsAt U) := fun U hU => ⟨hCW.labs.below hU, hm.below (KB.out U hU) hgM, ht.below (KB.out U hU) hgT, hwd.below (KB.out U hU) hgW⟩
  have KR : Hid (∀ U : World, Below W.heap.size W U → IsRaws U aa alen acap rs) := fun U hU => hx.below (KB.out U hU)
  have hRecs := fun w' h' => records_any S P (some ⟨g, 0, none⟩) n cp L aa alen acap rs 20 w' hok hCW.s1 hCW.s3 h' (by omega)
  go_upto_region 3 with (go_at_call 13; refine (hRecs _ (KR.out _ (Below.refl _ _))).mono ?_; rintro e w2 ⟨ao, cpo, ys, rfl, hR2, hg2, h25, hb2⟩)
  clear c0 c1 c2 hRecs
  obtain ⟨c0, c1, c2⟩ := KC.out _ hb2
  obtain ⟨s1, s2, s3, s4⟩ := KS.out _ hb2
  go_upto_region 4 with (go_at_call 14; refine (taped_any S P (some ⟨g, 0, none⟩) n cp L ao ys.length cpo ys _ s1 hR2 hg2 h25 s2 s3 s4).mono ?_; rintro e w3 ⟨ta, tl, tc, rfl, hI3, htl, hnew3, hb3⟩)
  obtain ⟨X, hX⟩ : ∃ X : World, X = w3.alloc (.cells #[.slice ta tl tc, .int .i64 0] 46) := ⟨_, rfl⟩
  have b3X : Below w3.heap.size w3 X := by rw [hX]; exact (Below.refl _ _).alloc (Nat.le_refl _) _
  have xb : BoxN X w3.heap.size 2 [.slice ta tl tc, .int .i64 0] := by rw [hX]; simpa using boxn_new w3 #[.slice ta tl tc, .int .i64 0] 46 2 rfl
  rw [← hX]
  clear hX c0 c1 c2 s1 s2 s3 s4
  have bX : Below W.heap.size W X := hb2.trans ((hb3.trans (b3X.mono hb3.size)).mono hb2.size)
  have hIX := hI3.below b3X
  have hRX := hR2.below (hb3.trans (b3X.mono hb3.size))
  have hlen : (tapeOf ys).length = tl := hIX.1
  have hg : ∀ y ∈ ys, recFault S L P y = 0 ∧ y.sites.length = y.sl := fun y hy => ⟨hg2 y hy, (hRX.2.2.2.1 y hy).1⟩
  have hTA : Hid (∀ (gs hs : List RcV) (k q q2 : Nat), k ≤ tl → AllOf S L P ((tapeOf ys).take k) gs q → AllOf S L P (((tapeOf ys).take k).take q) hs q2 → TornAll ys gs hs (((tapeOf ys).take k).take q) tl k q q2) := fun gs hs k q q2 hk h1 h2 => torn_all hg hlen hk h1 h2
  clear hlen hg
  obtain ⟨tb, etb⟩ : ∃ tb, tb = tapeOf ys := ⟨_, rfl⟩
  rw [← etb] at hIX hTA
  clear etb hI3
  have hpj := fun w' => picked_any at' ((tl : Int) + 1) w' hat' (by omega) (by omega)
  have pj := pk_bd at' ((tl : Int) + 1) (by omega)
  obtain ⟨k, ej⟩ : ∃ j : Nat, pk at' ((tl : Int) + 1) = j := ⟨(pk at' ((tl : Int) + 1)).toNat, by omega⟩
  rw [ej] at hpj pj
  clear ej
  have hk : k ≤ tl := by omega
  have tlc : tl ≤ tc := hIX.2.1
  have hbd := fun U => tape_build ta k k U
  have hsl := fun U => cut_same ta tl tc k (by omega) U
  have xlt := xb.lt
  have m0 : X.cell? ⟨w3.heap.size, 0, none⟩ = some (.slice ta tl tc) := (xb.c 0 (by omega)).1
  go_upto_region 5 with (go_at_call 12; refine (hpj _).mono ?_; rintro e v ⟨rfl, hv⟩; rw [hv]; clear hv v)
  clear hpj pj
  have hKk := hIX.take k k hk (Nat.le_refl _) (by omega)
  have hmay : mayT k 0 = true := by simp [mayT]; omega
  have HRec : Hid (∀ U, Below X.heap.size X U → Calls Tryd.prog 18 #[.agg #[.int .i64 S, .slice (some ⟨g, 0, none⟩) n cp, .int .i64 P], .agg #[.slice ta k k, .int .i64 0]] U fun e w' => ∃ (ao : Option Addr) (cp : Nat) (gs : List RcV) (q : Nat) (ua : Option Addr) (z : Int),
      e = .returned (.tuple #[.slice ao gs.length cp, .agg #[.slice ua q q, .int .i64 z], .int .i64 0]) ∧ IsRecs w' ao gs.length cp gs ∧ AllOf S L P (tb.take k) gs q ∧ q ≤ k ∧ IsB w' ua q q ((tb.take k).take q) ∧ z = (if (q : Int) < 0 then (q : Int) else 0) ∧ (∀ b off, ua = some ⟨b, off, none⟩ → U.heap.size ≤ b) ∧ (∀ b off, ao = some ⟨b, off, none⟩ → U.heap.size ≤ b) ∧ (∀ y ∈ gs, ∀ b off, y.sa = some ⟨b, off, none⟩ → U.heap.size ≤ b) ∧ Below U.heap.size U w') := fun U hU => by
    have hWU := bX.trans (hU.mono bX.size)
    obtain ⟨s1, s2, s3, s4⟩ := KS.out _ hWU
    exact recover_ok S P (some ⟨g, 0, none⟩) n cp L ta k k (tb.take k) 0 U s1 (hKk.below hU) hmay hok s2 s3 s4
  have KX : Hid (∀ U : World, Below X.heap.size X U → (U.cell? ⟨w1.heap.size, 0, none⟩ = some (.int .i64 S) ∧ U.cell? ⟨w1.heap.size, 1, none⟩ = some (.slice (some ⟨g, 0, none⟩) n cp) ∧ U.cell? ⟨w1.heap.size, 2, none⟩ = some (.int .i64 P)) ∧ U.cell? ⟨w3.heap.size, 0, none⟩ = some (.slice ta tl tc)) := fun U hU => ⟨KC.out _ (bX.trans (hU.mono bX.size)), (hU.cell (p := ⟨w3.heap.size, 0, none⟩) xlt).trans m0⟩
  have hD : Below X.heap.size X X.drew := (Below.refl _ _).drew
  clear hKk hmay hg2 h25 hnew3 hb3 b3X hb2 hC1 hBW hb1 hCfg hBw hCW zW
  go_cut [14, 15, 16] (fun s14 s15 s16 wc => ∃ (ga : Option Addr) (gc : Nat) (gs : List RcV) (q qb : Nat) (ua : Option Addr), s14 = .slice ga gs.length gc ∧ s15 = .pointer (some ⟨qb, 0, none⟩) ∧ s16 = .int .i64 0 ∧ BoxN wc qb 2 [.slice ua q q, .int .i64 0] ∧ IsRecs wc ga gs.length gc gs ∧ AllOf S L P (tb.take k) gs q ∧ q ≤ k ∧ IsB wc ua q q ((tb.take k).take q) ∧ Below X.heap.size X wc)
  case first =>
    clear hTA hRX hR2
    rename_i K0 hK0 J0 K1 hJ0 hM0
    clear hK0
    go_region_held3 (fun U => (U.cell? ⟨w1.heap.size, 0, none⟩ = some (.int .i64 S) ∧ U.cell? ⟨w1.heap.size, 1, none⟩ = some (.slice (some ⟨g, 0, none⟩) n cp) ∧ U.cell? ⟨w1.heap.size, 2, none⟩ = some (.int .i64 P)) ∧ U.cell? ⟨w3.heap.size, 0, none⟩ = some (.slice ta tl tc))
      (exact KX.out _ (by (with_reducible repeat (first | exact hu3 | exact hD | exact Below.refl _ _ | refine bD ?_ | refine bA ?_ _ | refine bS ?_ (by omega) _)); done))
      ((go_at_call 18; refine (HRec.out _ (by (with_reducible repeat (first | exact hD | exact Below.refl _ _ | refine bD ?_ | refine bA ?_ _ | refine bS ?_ (by omega) _)); done)).mono ?_; rintro e u3 ⟨ga, gc, gs, q, ua, z, rfl, hRg, hAl, hqk, hIu, hz, hnewU, hnewA, hnewS, hb3'⟩; obtain rfl : z = 0 := (by rw [hz, if_neg (by omega)]); clear hz; have HAl : Hid (AllOf S L P (tb.take k) gs q) := hAl; have HIu : Hid (IsB u3 ua q q ((tb.take k).take q)) := hIu; have HRg : Hid (IsRecs u3 ga gs.length gc gs) := hRg; have HnU : Hid (∀ b off, ua = some ⟨b, off, none⟩ → _ ≤ b) := hnewU; have HnA : Hid (∀ b off, ga = some ⟨b, off, none⟩ → _ ≤ b) := hnewA; have HnS : Hid (∀ y ∈ gs, ∀ b off, y.sa = some ⟨b, off, none⟩ → _ ≤ b) := hnewS; clear hAl hIu hRg hnewU hnewA hnewS; have hu3 : Below X.heap.size X u3 := bT (by (with_reducible repeat (first | exact hD | exact Below.refl _ _ | refine bD ?_ | refine bA ?_ _ | refine bS ?_ (by omega) _)); done) hb3'; have z3 : X.heap.size ≤ u3.heap.size := hu3.size; (first | (have bx3 : BoxN u3 X.heap.size 2 [.slice none 0 0, .int .i64 0] := (boxn_new X.drew #[.slice none 0 0, .int .i64 0] 46 2 rfl).below hb3' (by simp); have hneU : Hid (∀ b off, ua = some ⟨b, off, none⟩ → b ≠ X.heap.size) := fun b off e => Nat.ne_of_gt (Nat.lt_of_lt_of_le (by simp) (HnU.out b off e)); have hneA : Hid (∀ b off, ga = some ⟨b, off, none⟩ → b ≠ X.heap.size) := fun b off e => Nat.ne_of_gt (Nat.lt_of_lt_of_le (by simp) (HnA.out b off e)); have hneS : Hid (∀ y ∈ gs, ∀ b off, y.sa = some ⟨b, off, none⟩ → b ≠ X.heap.size) := fun y hy b off e => Nat.ne_of_gt (Nat.lt_of_lt_of_le (by simp) (HnS.out y hy b off e)); have t0 : _ = some (Value.slice none 0 0) := (bx3.c 0 (by omega)).1; have g0 := (bx3.c 0 (by omega)).2; have t1 : _ = some (Value.int .i64 0) := (bx3.c 1 (by omega)).1; have g1 := (bx3.c 1 (by omega)).2) | (have bx3 : BoxN u3 X.heap.size 2 [.slice none 0 0, .int .i64 0] := (boxn_new X #[.slice none 0 0, .int .i64 0] 46 2 rfl).below hb3' (by simp); have hneU : Hid (∀ b off, ua = some ⟨b, off, none⟩ → b ≠ X.heap.size) := fun b off e => Nat.ne_of_gt (Nat.lt_of_lt_of_le (by simp) (HnU.out b off e)); have hneA : Hid (∀ b off, ga = some ⟨b, off, none⟩ → b ≠ X.heap.size) := fun b off e => Nat.ne_of_gt (Nat.lt_of_lt_of_le (by simp) (HnA.out b off e)); have hneS : Hid (∀ y ∈ gs, ∀ b off, y.sa = some ⟨b, off, none⟩ → b ≠ X.heap.size) := fun y hy b off e => Nat.ne_of_gt (Nat.lt_of_lt_of_le (by simp) (HnS.out y hy b off e)); have t0 : _ = some (Value.slice none 0 0) := (bx3.c 0 (by omega)).1; have g0 := (bx3.c 0 (by omega)).2; have t1 : _ = some (Value.int .i64 0) := (bx3.c 1 (by omega)).1; have g1 := (bx3.c 1 (by omega)).2) | skip)))
    all_goals
      first
        | (have bxF := (bx3.set 0 (by omega) (.slice ua q q)).set 1 (by omega) (.int .i64 0))
        | (have bxF : BoxN _ u3.heap.size 2 [.slice ua q q, .int .i64 0] := boxn_new u3 #[.slice ua q q, .int .i64 0] 46 2 rfl)
      go_wp2_with fail
      go_meet
      case rel => exact ⟨ga, gc, gs, q, _, ua, rfl, rfl, rfl, bxF, (by (with_reducible repeat (first | exact HRg.out | exact hneA.out | exact hneS.out | refine isRecs_set ?_ ?_ ?_ | refine IsRecs.below ?_ ((Below.refl _ _).alloc (Nat.le_refl _) _))); done), HAl.out, hqk, (by (with_reducible repeat (first | exact HIu.out | exact hneU.out | refine IsB.set ?_ _ _ ?_ | refine isB_alloc ?_ _)); done), (by (with_reducible repeat (first | exact hu3 | exact hD | exact Below.refl _ _ | refine bD ?_ | refine bA ?_ _ | refine bS ?_ (by omega) _)); done)⟩
  case rest =>
    obtain ⟨ga, gc, gs, q, qb, ua, rfl, rfl, rfl, bxU, hRg, hAl, hqk, hIu, bF⟩ := hcut
    obtain ⟨Y, eY⟩ : ∃ Y, Y = wc := ⟨_, rfl⟩
    rw [← eY] at bxU hRg hIu bF ⊢
    clear eY
    have bY : Below W.heap.size W Y := bX.trans (bF.mono bX.size)
    have hm2 : mayT q 0 = true := by simp [mayT]; omega
    have hRec2 := fun U h1 h2 h3 h4 h5 => recover_ok S P (some ⟨g, 0, none⟩) n cp L ua q q ((tb.take k).take q) 0 U h1 h2 hm2 hok h3 h4 h5
    have hRec3 := fun U => recover_state S P (some ⟨g, 0, none⟩) n cp none 0 0 1 U (by decide) (by decide)
    obtain ⟨c0, c1, c2⟩ := KC.out _ bY
    obtain ⟨s1, s2, s3, s4⟩ := KS.out _ bY
    have u0 : Y.cell? ⟨qb, 0, none⟩ = some (.slice ua q q) := (bxU.c 0 (by omega)).1
    have u1 : Y.cell? ⟨qb, 1, none⟩ = some (.int .i64 0) := (bxU.c 1 (by omega)).1
    have qlt := bxU.lt
    go_upto_region 7 with (go_at_call 18; refine (hRec2 _ s1 hIu s2 s3 s4).mono ?_; rintro e w6 ⟨ha, hc, hs2, q2, va, z2, rfl, hRh, hAl2, hq2, hIv, hz2, hnV, hnA, hnS, hb6⟩; clear hnV hnA hnS)
    obtain rfl : z2 = 0 := by rw [hz2, if_neg (by omega)]
    obtain ⟨V6, hV6⟩ : ∃ V : World, V = w6.alloc (.cells #[.slice va q2 q2, .int .i64 0] 46) := ⟨_, rfl⟩
    have b6V : Below w6.heap.size w6 V6 := by rw [hV6]; exact (Below.refl _ _).alloc (Nat.le_refl _) _
    have vb : BoxN V6 w6.heap.size 2 [.slice va q2 q2, .int .i64 0] := by rw [hV6]; simpa using boxn_new w6 #[.slice va q2 q2, .int .i64 0] 46 2 rfl
    rw [← hV6]
    clear hV6 c0 c1 c2 u0 u1 s1 s2 s3 s4 hRec2 hz2
    have bYV : Below Y.heap.size Y V6 := hb6.trans (b6V.mono hb6.size)
    have bV6 : Below W.heap.size W V6 := bY.trans (bYV.mono bY.size)
    obtain ⟨c0, c1, c2⟩ := KC.out _ bV6
    go_upto_region 8 with (go_at_call 18; refine (hRec3 _).mono ?_; rintro e w7 ⟨rfl, hb7⟩)
    obtain ⟨V7, hV7⟩ : ∃ V : World, V = w7.alloc (.cells #[.slice none 0 0, .int .i64 0] 46) := ⟨_, rfl⟩
    have b7V : Below w7.heap.size w7 V7 := by rw [hV7]; exact (Below.refl _ _).alloc (Nat.le_refl _) _
    rw [← hV7]
    clear hV7 c0 c1 c2 hRec3
    have b67 : Below V6.heap.size V6 V7 := hb7.trans (b7V.mono hb7.size)
    have bY7 : Below Y.heap.size Y V7 := bYV.trans (b67.mono bYV.size)
    have bX7 : Below X.heap.size X V7 := bF.trans (bY7.mono bF.size)
    have bW7 : Below W.heap.size W V7 := bX.trans (bX7.mono bX.size)
    obtain ⟨t1, t2, t3, t4, t5, t6⟩ := hTA.out gs hs2 k q q2 hk hAl hAl2
    subst t4
    rw [List.take_take, Nat.min_self] at hIv
    have hRg7 := hRg.below bY7
    have hRy7 := hRX.below bX7
    have hIu7 := hIu.below bY7
    have hIv7 := hIv.below (b6V.trans (b67.mono b6V.size))
    have u0 : V7.cell? ⟨qb, 0, none⟩ = some (.slice ua q2 q2) := ((bxU.below bY7 qlt).c 0 (by omega)).1
    have v0 : V7.cell? ⟨w6.heap.size, 0, none⟩ = some (.slice va q2 q2) := ((vb.below b67 vb.lt).c 0 (by omega)).1
    have m7 : V7.cell? ⟨w3.heap.size, 0, none⟩ = some (.slice ta tl tc) := (bX7.cell (p := ⟨w3.heap.size, 0, none⟩) xlt).trans m0
    have T3 : Hid ((hs2.length : Int) = (gs.length : Int)) := by show _ = _; omega
    have T5 : Hid ((q2 : Int) ≤ (k : Int)) := by show (q2 : Int) ≤ (k : Int); omega
    have hBg := fun U h1 h2 => begins_any ga ao gs.length ys.length gc cpo gs ys U h1 h2 t1 t2
    clear t2 hTA t3
    have hcase : Hid ((gs.length : Int) = (ys.length : Int) ∧ (k : Int) = (tl : Int) ∧ ((gs.length : Int) == (ys.length : Int)) = true ∧ ((k : Int) == (tl : Int)) = true) ∨ Hid (¬ (gs.length : Int) = (ys.length : Int) ∧ ¬ (k : Int) = (tl : Int) ∧ ((gs.length : Int) == (ys.length : Int)) = false ∧ ((k : Int) == (tl : Int)) = false) := by
      by_cases hfull : gs.length = ys.length
      · rw [decide_eq_true hfull] at t6
        have hkt : k = tl := of_decide_eq_true t6.symm
        exact .inl (show _ ∧ _ from ⟨by omega, by omega, by simp [hfull], by simp [hkt]⟩)
      · rw [decide_eq_false hfull] at t6
        have hkt : ¬ k = tl := of_decide_eq_false t6.symm
        exact .inr (show _ ∧ _ from ⟨by omega, by omega, by simp; omega, by simp; omega⟩)
    clear t6 t1 t5 hk hAl hAl2 hRg hIu hIv hRh
    have zq : qb < V7.heap.size := Nat.lt_of_lt_of_le qlt bY7.size
    have z6 : w6.heap.size < V7.heap.size := Nat.lt_of_lt_of_le vb.lt b67.size
    have zx : w3.heap.size < V7.heap.size := Nat.lt_of_lt_of_le xlt bX7.size
    rcases hcase with HF | HF
    · skip
      go_wp2_with (go_at_call 19; refine (hBg _ hRg7 hRy7).mono ?_; rintro e w8 ⟨rfl, hb8⟩; have y0 := (hb8.cell (p := ⟨qb, 0, none⟩) zq).trans u0; have y1 := (hb8.cell (p := ⟨w6.heap.size, 0, none⟩) z6).trans v0; have y2 := (hb8.cell (p := ⟨w3.heap.size, 0, none⟩) zx).trans m7; have r1 := run_string (hIu7.below hb8); have r2 := run_string (hIv7.below hb8); have t3 := T3.out; have t5 := T5.out; obtain ⟨f1, f2, f3, f4⟩ := HF.out)
      go_ret
      exact ⟨by first | rfl | simp, KB.out _ (bW7.trans (hb8.mono bW7.size))⟩
    · skip
      go_wp2_with (go_at_call 19; refine (hBg _ hRg7 hRy7).mono ?_; rintro e w8 ⟨rfl, hb8⟩; have y0 := (hb8.cell (p := ⟨qb, 0, none⟩) zq).trans u0; have y1 := (hb8.cell (p := ⟨w6.heap.size, 0, none⟩) z6).trans v0; have y2 := (hb8.cell (p := ⟨w3.heap.size, 0, none⟩) zx).trans m7; have r1 := run_string (hIu7.below hb8); have r2 := run_string (hIv7.below hb8); have t3 := T3.out; have t5 := T5.out; obtain ⟨f1, f2, f3, f4⟩ := HF.out)
      go_ret
      exact ⟨by first | rfl | simp, KB.out _ (bW7.trans (hb8.mono bW7.size))⟩
end Go.Proofs.YtfloplkepmpaiaaDoor
