/- Proved here: the law LinesShows returns true at every input, and each argument reads afterwards as it read before. No further condition. -/
import Derived.Test.YtlaagfnoepcnlaaDoorRows
import Derived.Test.YtlaagfnoepcnlaaDoorA1LinesShows
import Derived.Test.YtlaagfnoepcnlaaDoorA3LinesShows
import Derived.Test.YtlaagfnoepcnlaaDoorM7LinesShows
import Derived.Test.YtlaagfnoepcnlaaDoorM15LinesShows
import Derived.Test.YtlaagfnoepcnlaaDoorM20LinesShows
import Derived.Test.YtlaagfnoepcnlaaDoorM25LinesShows
import Derived.Test.YtlaagfnoepcnlaaDoorTie
import Derived.Test.YtlaagfnoepcnlaaDoorCards
import Derived.Test.YtlaagfnoepcnlaaDoorM26LinesShows
import Derived.Test.YtlaagfnoepcnlaaDoorA27LinesShows
import Derived.LaidMore
import Derived.Stop.Joined
import Derived.SevenTiedAt
import Derived.Lay
import Derived.LaidOnce
import Derived.WalkKit
import Derived.ProofKit
import Derived.OpenShut
import Derived.ShutString
import Derived.ChangeOld
import Derived.Below
import Derived.SizedLaws
namespace Go.Proofs.YtlaagfnoepcnlaaDoor.linesShowsProof
open Go.ChangeShapes Go.WideShapes Go.ChangeAt Go.RowKit
set_option linter.unusedVariables false

theorem own : ownKnob Tryd.prog.godebug = none := by kernel_rfl
theorem laidOut : laidOutB Tryd.prog = true := by kernel_rfl

/-- What the condition gives the walk. -/
theorem of_laid {W : World} (h : laidMetH Tryd.prog Rows.linesShowsRow.laid W) : Lib.TabIs Tryd.prog W "internal/strconv.uint64pow10" .u64 Lib.pow10Tab ∧ Ln.WTab W 1 9 Ln.aWord ∧ Ln.Tab W 0 7 Ln.aHas ∧ Ln.WTab W 4 6 Ln.cWord ∧ Ln.Tab W 2 4 Ln.cHas ∧ Ln.CTops W := by
  rw [MakeChecks.laidMetH_plain _ _ _ (by kernel_rfl)] at h
  obtain ⟨ps, ⟨g0, t0, cs0, f0, p0, q0, hg0, ht0, hv0, hd0, ⟨g1, t1, cs1, f1, p1, q1, hg1, ht1, hv1, hd1, ⟨g2, t2, cs2, f2, p2, q2, hg2, ht2, hv2, hd2, ⟨g3, t3, cs3, f3, p3, q3, hg3, ht3, hv3, hd3, ⟨g4, t4, cs4, f4, p4, q4, hg4, ht4, hv4, hd4, ⟨g5, t5, cs5, f5, p5, q5, hg5, ht5, hv5, hd5, ⟨g6, t6, cs6, f6, p6, q6, hg6, ht6, hv6, hd6, ⟨g7, t7, cs7, f7, p7, q7, hg7, ht7, hv7, hd7, _, _⟩, _⟩, _⟩, _⟩, _⟩, _⟩, _⟩, _⟩, _, _⟩ := h
  obtain rfl : g2 = 6 := Option.some.inj (hg2.symm.trans (by kernel_rfl))
  obtain rfl : t2 = 145 := Option.some.inj (ht2.symm.trans (by kernel_rfl))
  obtain rfl : g3 = 1 := Option.some.inj (hg3.symm.trans (by kernel_rfl))
  obtain rfl : t3 = 88 := Option.some.inj (ht3.symm.trans (by kernel_rfl))
  obtain rfl : g4 = 0 := Option.some.inj (hg4.symm.trans (by kernel_rfl))
  obtain rfl : t4 = 81 := Option.some.inj (ht4.symm.trans (by kernel_rfl))
  obtain rfl : g5 = 4 := Option.some.inj (hg5.symm.trans (by kernel_rfl))
  obtain rfl : t5 = 117 := Option.some.inj (ht5.symm.trans (by kernel_rfl))
  obtain rfl : g6 = 2 := Option.some.inj (hg6.symm.trans (by kernel_rfl))
  obtain rfl : t6 = 112 := Option.some.inj (ht6.symm.trans (by kernel_rfl))
  obtain rfl : g7 = 3 := Option.some.inj (hg7.symm.trans (by kernel_rfl))
  obtain rfl : t7 = 113 := Option.some.inj (ht7.symm.trans (by kernel_rfl))
  exact ⟨by unfold Lib.TabIs; rw [hv2, ← Lib.cells_of_tab Tryd.underlying145 Tryd.underlying136 (by kernel_rfl) (by kernel_rfl) hd2], Ln.wtab_of (ws := Ln.awL) hg3 hv3 Tryd.underlying88 rfl (by decide) Ln.awL_is hd3, Ln.has_of hg4 hv4 Tryd.underlying81 Tryd.underlying80 Ln.cells7b rfl Ln.aHas_rows hd4, Ln.wtab_of (ws := Ln.cwL) hg5 hv5 Tryd.underlying117 rfl (by decide) Ln.cwL_is hd5, Ln.has_of hg6 hv6 Tryd.underlying112 Tryd.underlying111 Ln.cells4b rfl Ln.cHas_rows hd6, Ln.tops_of hg7 hv7 hd7⟩

set_option maxRecDepth 100000 in
set_option maxHeartbeats 1000000 in
theorem lifted (os : Os) (started : os.Started) (H : Type) (enc : TypeId × Value → H) :
    ReturnsInHanded {} Tryd.checked os 3 .any (fun w args => (Rows.linesShowsSpec.pre enc Tryd.prog Tryd.f3 [] false w args ∧ laidMetH Tryd.prog Rows.linesShowsRow.laid w) ∧ sizedMet enc Tryd.prog Tryd.f3 (OpenSpec.ofChange Rows.linesShowsSpec) false w args)
      (Rows.linesShowsSpec.post enc Tryd.prog Tryd.f3 false true false false) := by
  refine returnsInHanded_of_change_and (C := Tryd.checked) (X := fun w _ => laidMetH Tryd.prog Rows.linesShowsRow.laid w) (fun _ _ _ hh h => h.of_heap hh) own started (by kernel_rfl) Tryd.func3
    (ChangeSpec.witness_shaped (enc := enc) (C := Tryd.checked) (os := os) (X := fun w _ => laidMetH Tryd.prog Rows.linesShowsRow.laid w) false (World.laidAll Tryd.prog os Rows.linesShowsRow.laid) #[.agg #[.int .i64 0, .slice none 0 0, .int .i64 0], .slice none 0 0] 8 (World.laidAll_os _ _ _) (World.shaped_of_ZipB (by kernel_rfl) (by kernel_rfl)) (by kernel_rfl) (by kernel_rfl) (by kernel_rfl) (by rw [MakeChecks.laidMetH_plain _ _ _ (by kernel_rfl)]; exact laidMet_laidAll _ (by kernel_rfl) (by kernel_rfl))) ?_
  intro W base args ds gs before hval0 hW _ hsz0 hL _
  have hval : ∀ (j : Nat) t v, Tryd.f3.params[j]? = some t → args[j]? = some v → Value.okWide Tryd.prog W .any base t v := hval0
  have hW' := hW
  obtain ⟨p, q, hA0, hV, rfl, hfz, hnd⟩ := hW
  have hA : DataW.TrodAll enc Tryd.prog W 0 (fun _ => true) true Tryd.f3.params.toList args.toList ds p := hA0
  rw [Tryd.params3] at hA hval
  obtain ⟨v0, vs0, d0, ds0, p0, q0, hargs, rfl, rfl, h0, r0⟩ := trodAll_cons hA
  obtain ⟨v1, vs1, d1, ds1, p1, q1, rfl, rfl, rfl, h1, r1⟩ := trodAll_cons r0
  obtain ⟨rfl, rfl, rfl⟩ := trodAll_nil r1
  obtain rfl : args = #[v0, v1] := by cases args; simp_all
  obtain ⟨rfl, rfl⟩ := trodVars_none hV
  have k0 := h0
  have lt0 : ∀ x ∈ p0, x.block < W.heap.size := by obtain ⟨m, hm⟩ := k0; exact DataW.trod_lt m _ _ _ hm
  have k1 := h1
  have lt1 : ∀ x ∈ p1, x.block < W.heap.size := by obtain ⟨m, hm⟩ := k1; exact DataW.trod_lt m _ _ _ hm
  obtain ⟨s0, a0, len0, cap0, p0', ls0, rfl, ws0, wr0, wp0⟩ := op_config (hval 0 24 v0 rfl rfl) h0
  obtain ⟨a1, len1, cap1, xs1, rfl, wr1, wl1⟩ := op_acts (hval 1 25 v1 rfl rfl) h1
  have wn1 := Ln.acts_nil h1
  have light1 : Light 25 d1 := fun n hn => by
    have := List.all_eq_true.1 hsz0 n (DataW.weights_mem_each (j := 1) (t := 25) (d := d1) (by rw [Tryd.params3]; rfl) rfl n hn)
    simpa using this
  clear hA0 hval0
  obtain ⟨L2, L3, L4, L5, L6, L7⟩ := of_laid hL
  refine (Ln.linesShows_walk s0 a0 len0 cap0 p0' ls0 a1 len1 cap1 xs1 W ws0 wr0 wp0 wr1 wn1 (wl1 light1) (Ln.lnt_all L2 L4 L3 L6 L5 L7)).mono fun e W' ⟨he, bel⟩ => ?_
  subst he
  exact ⟨_, rfl, _, _, _, [], _, [], hW', trodAll_mk1 (shut_bool Tryd.underlying4 _), (trodAll_cons_mk (Below.trod laidOut (by kernel_rfl) (of_decide_eq_true (by kernel_rfl)) k0 bel lt0) (trodAll_cons_mk (Below.trod laidOut (by kernel_rfl) (of_decide_eq_true (by kernel_rfl)) k1 bel lt1) trodAll_mk0)), rfl, bel.frame _, fun h => by cases h⟩

theorem closed : joinedFacts Tryd.pinned.checked.prog 3 Tryd.f3 Rows.linesShowsSpec Rows.linesShowsRow = true := by
  unfold joinedFacts
  rw [c_laid1, c_laid2, c_inPlace, c_unf, c_rec, c_named, c_sh, c_me, c_li, c_mk, c_pk]
  kernel_rfl
theorem over : Rows.linesShowsRow.holds Tryd.pinned (OpenSpec.ofChange Rows.linesShowsSpec) :=
  OpenClaim.holds_of_wide 3 Tryd.f3 rfl rfl rfl rfl rfl rfl rfl ⟨rfl, rfl, rfl, rfl, rfl⟩ rfl rfl rfl rfl rfl (by kernel_rfl) Tryd.func3 closed
    (of_decide_eq_true (by kernel_rfl)) (by unfold Func.isWrapper; first | (rw [if_pos (by decide +kernel)]; kernel_rfl) | (rw [if_neg (by decide +kernel)]; exact ⟨rfl, rfl⟩))
    (fun os started H enc _ => lifted os started H enc)

end Go.Proofs.YtlaagfnoepcnlaaDoor.linesShowsProof
namespace Go.Proofs.YtlaagfnoepcnlaaDoor
theorem linesShows_row_holds : Rows.LinesShowsSaid := linesShowsProof.over
/-- The tied card. -/
theorem linesShows_holds : Rows.LinesShowsCardSaid :=
  Claim7.holds_tied_plain_at .later [] [.data, .data, .data, .data, .data, .data, .data, .data] true Rows.linesShowsCard.stood.harness true
    linesShows_row_holds (fun _ h => by cases h) (by kernel_rfl) (fun _ h => by cases h) linesShows_row_tie rfl ⟨rfl, rfl⟩ (by kernel_rfl) rfl
    (fun f fn hf hfn => by
      obtain rfl : f = 3 := Option.some.inj (hf.symm.trans (by kernel_rfl))
      obtain rfl : fn = Tryd.f3 := (Option.some.inj (Tryd.func3.symm.trans hfn)).symm
      exact ⟨by kernel_rfl, fun j t ht => by
        rw [Tryd.params3] at ht
        have hm : t ∈ [24, 25] := by simpa using Array.mem_of_getElem? ht
        have hall : ([24, 25].all fun u => !Tryd.prog.wantsStandIn u) = true := by kernel_rfl
        exact (show Tryd.prog.wantsStandIn t = false by simpa using List.all_eq_true.1 hall t hm)⟩)
    (by kernel_rfl)
#print axioms linesShows_holds
end Go.Proofs.YtlaagfnoepcnlaaDoor
