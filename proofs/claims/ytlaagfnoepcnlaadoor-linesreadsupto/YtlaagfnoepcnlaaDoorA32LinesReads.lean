/- Proved here: the law LinesReads returns true at every input whose bulk is at most 1048576, and each argument reads afterwards as it read before. No further condition. -/
import Derived.Test.YtlaagfnoepcnlaaDoorRows
import Derived.Test.YtlaagfnoepcnlaaDoorA1LinesReads
import Derived.Test.YtlaagfnoepcnlaaDoorA3LinesReads
import Derived.Test.YtlaagfnoepcnlaaDoorM11LinesReads
import Derived.Test.YtlaagfnoepcnlaaDoorM19LinesReads
import Derived.Test.YtlaagfnoepcnlaaDoorM29LinesReads
import Derived.Test.YtlaagfnoepcnlaaDoorTie
import Derived.Test.YtlaagfnoepcnlaaDoorCards
import Derived.Test.YtlaagfnoepcnlaaDoorM30LinesReads
import Derived.Test.YtlaagfnoepcnlaaDoorA31LinesReads
import Derived.LaidMore
import Derived.Stop.Joined
import Derived.SevenTiedAt
import Derived.Lay
import Derived.LaidOnce
import Derived.WalkKit
import Derived.ProofKit
import Derived.OpenShut
import Derived.ShutString
import Derived.ChangeOld
import Derived.Below
import Derived.ChangeMaps5
import Derived.Deep.DeepHandedRow
import Derived.SizedLaws
namespace Go.Proofs.YtlaagfnoepcnlaaDoor.linesReadsProof
open Go.ChangeShapes Go.WideShapes Go.ChangeAt Go.RowKit
set_option linter.unusedVariables false

theorem own : ownKnob Tryd.prog.godebug = none := by kernel_rfl
theorem laidOut : laidOutB Tryd.prog = true := by kernel_rfl

/-- What the condition gives the walk. -/
theorem of_laid {W : World} (h : laidMetH Tryd.prog Rows.linesReadsUptoRow.laid W) : Lib.TabIs Tryd.prog W "internal/strconv.uint64pow10" .u64 Lib.pow10Tab ∧ Ln.IfAt W 10 ∧ Ln.IfAt W 9 ∧ Ln.WTab W 1 9 Ln.aWord ∧ Ln.Tab W 0 7 Ln.aHas ∧ Ln.WTab W 4 6 Ln.cWord ∧ Ln.Tab W 2 4 Ln.cHas ∧ Ln.CTops W := by
  rw [MakeChecks.laidMetH_plain _ _ _ (by kernel_rfl)] at h
  obtain ⟨ps, ⟨g0, t0, cs0, f0, p0, q0, hg0, ht0, hv0, hd0, ⟨g1, t1, cs1, f1, p1, q1, hg1, ht1, hv1, hd1, ⟨g2, t2, cs2, f2, p2, q2, hg2, ht2, hv2, hd2, ⟨g3, t3, cs3, f3, p3, q3, hg3, ht3, hv3, hd3, ⟨g4, t4, cs4, f4, p4, q4, hg4, ht4, hv4, hd4, ⟨g5, t5, cs5, f5, p5, q5, hg5, ht5, hv5, hd5, ⟨g6, t6, cs6, f6, p6, q6, hg6, ht6, hv6, hd6, ⟨g7, t7, cs7, f7, p7, q7, hg7, ht7, hv7, hd7, ⟨g8, t8, cs8, f8, p8, q8, hg8, ht8, hv8, hd8, ⟨g9, t9, cs9, f9, p9, q9, hg9, ht9, hv9, hd9, _, _⟩, _⟩, _⟩, _⟩, _⟩, _⟩, _⟩, _⟩, _⟩, _⟩, _, _⟩ := h
  obtain rfl : g2 = 6 := Option.some.inj (hg2.symm.trans (by kernel_rfl))
  obtain rfl : t2 = 145 := Option.some.inj (ht2.symm.trans (by kernel_rfl))
  obtain rfl : g3 = 10 := Option.some.inj (hg3.symm.trans (by kernel_rfl))
  obtain rfl : t3 = 57 := Option.some.inj (ht3.symm.trans (by kernel_rfl))
  obtain rfl : g4 = 9 := Option.some.inj (hg4.symm.trans (by kernel_rfl))
  obtain rfl : t4 = 57 := Option.some.inj (ht4.symm.trans (by kernel_rfl))
  obtain rfl : g5 = 1 := Option.some.inj (hg5.symm.trans (by kernel_rfl))
  obtain rfl : t5 = 88 := Option.some.inj (ht5.symm.trans (by kernel_rfl))
  obtain rfl : g6 = 0 := Option.some.inj (hg6.symm.trans (by kernel_rfl))
  obtain rfl : t6 = 81 := Option.some.inj (ht6.symm.trans (by kernel_rfl))
  obtain rfl : g7 = 4 := Option.some.inj (hg7.symm.trans (by kernel_rfl))
  obtain rfl : t7 = 117 := Option.some.inj (ht7.symm.trans (by kernel_rfl))
  obtain rfl : g8 = 2 := Option.some.inj (hg8.symm.trans (by kernel_rfl))
  obtain rfl : t8 = 112 := Option.some.inj (ht8.symm.trans (by kernel_rfl))
  obtain rfl : g9 = 3 := Option.some.inj (hg9.symm.trans (by kernel_rfl))
  obtain rfl : t9 = 113 := Option.some.inj (ht9.symm.trans (by kernel_rfl))
  exact ⟨by unfold Lib.TabIs; rw [hv2, ← Lib.cells_of_tab Tryd.underlying145 Tryd.underlying136 (by kernel_rfl) (by kernel_rfl) hd2], by obtain ⟨_, u, v, e, _, _⟩ := iface_of_trod Tryd.underlying57 hd3; exact ⟨.iface u v, (World.var?_cell hg3 hv3 0).trans (by rw [← Array.getElem?_toList, e]; rfl), Or.inr ⟨u, v, rfl⟩⟩, by obtain ⟨_, u, v, e, _, _⟩ := iface_of_trod Tryd.underlying57 hd4; exact ⟨.iface u v, (World.var?_cell hg4 hv4 0).trans (by rw [← Array.getElem?_toList, e]; rfl), Or.inr ⟨u, v, rfl⟩⟩, Ln.wtab_of (ws := Ln.awL) hg5 hv5 Tryd.underlying88 rfl (by decide) Ln.awL_is hd5, Ln.has_of hg6 hv6 Tryd.underlying81 Tryd.underlying80 Ln.cells7b rfl Ln.aHas_rows hd6, Ln.wtab_of (ws := Ln.cwL) hg7 hv7 Tryd.underlying117 rfl (by decide) Ln.cwL_is hd7, Ln.has_of hg8 hv8 Tryd.underlying112 Tryd.underlying111 Ln.cells4b rfl Ln.cHas_rows hd8, Ln.tops_of hg9 hv9 hd9⟩

set_option maxRecDepth 100000 in
set_option maxHeartbeats 1000000 in
theorem lifted (os : Os) (started : os.Started) (H : Type) (enc : TypeId × Value → H) (FI : Stop.Interp) :
    ReturnsInHanded {} Tryd.checked os 4 .any ((Rows.OpenSpec.upto Rows.linesReadsSpec).preRow enc Tryd.prog Tryd.f4 Rows.linesReadsUptoRow.domain false Rows.linesReadsUptoRow.laid) (((Rows.OpenSpec.upto Rows.linesReadsSpec).at FI).post enc Tryd.prog Tryd.f4 false true false false) := by
  have hs : (DataW.whole enc Tryd.prog ((World.laidAll Tryd.prog os Rows.linesReadsUptoRow.laid).forCall (fun _ _ => 0) ⟨#[], #[.agg #[.int .i64 0, .slice none 0 0, .int .i64 0], .string .empty], []⟩).memory Tryd.f4.params.toList (Rows.OpenSpec.upto Rows.linesReadsSpec).vars false (#[.agg #[.int .i64 0, .slice none 0 0, .int .i64 0], .string .empty] : Array Value).toList 8).isSome = true := by kernel_rfl
  have hok : Input.okWideB Tryd.checked.prog ((World.laidAll Tryd.prog os Rows.linesReadsUptoRow.laid).forCall (fun _ _ => 0) ⟨#[], #[.agg #[.int .i64 0, .slice none 0 0, .int .i64 0], .string .empty], []⟩) 4 ⟨#[], #[.agg #[.int .i64 0, .slice none 0 0, .int .i64 0], .string .empty], []⟩ = true := by kernel_rfl
  refine returnsInHanded_of_row (C := Tryd.checked) (s := (Rows.OpenSpec.upto Rows.linesReadsSpec)) own started (by kernel_rfl) Tryd.func4
    ⟨(World.laidAll Tryd.prog os Rows.linesReadsUptoRow.laid), fun _ _ => 0, ⟨#[], #[.agg #[.int .i64 0, .slice none 0 0, .int .i64 0], .string .empty], []⟩, World.laidAll_os _ _ _, World.shaped_of_ZipB (by kernel_rfl) (by kernel_rfl), (Input.okWide_of_okWideB (base := 0) hok).1, (Input.okWide_of_okWideB hok).2, OpenSpec.preRow_of_cond 8 (x := (DataW.whole enc Tryd.prog ((World.laidAll Tryd.prog os Rows.linesReadsUptoRow.laid).forCall (fun _ _ => 0) ⟨#[], #[.agg #[.int .i64 0, .slice none 0 0, .int .i64 0], .string .empty], []⟩).memory Tryd.f4.params.toList (Rows.OpenSpec.upto Rows.linesReadsSpec).vars false (#[.agg #[.int .i64 0, .slice none 0 0, .int .i64 0], .string .empty] : Array Value).toList 8).get hs) (Option.some_get hs).symm (by kernel_rfl) (fun k hk => by cases hk; kernel_rfl) (by kernel_rfl) (by rw [MakeChecks.laidMetH_plain _ _ _ (by kernel_rfl)]; exact laidMet_laidAll _ (by kernel_rfl) (by kernel_rfl)), by simp only [Assume.holds]; exact ⟨by simp, by simp, fun _ => Modest.zero, by simp, by simp⟩⟩ ?_
  intro W base args ds gs before hval0 hW _ hcond hsz0 hL hsh _
  have hbk0 := of_decide_eq_true (hcond _ rfl)
  have hval : ∀ (j : Nat) t v, Tryd.f4.params[j]? = some t → args[j]? = some v → Value.okWide Tryd.prog W .any base t v := hval0
  have hW' := hW
  obtain ⟨p, q, hA0, hV, rfl, hfz, hnd⟩ := hW
  have hA : DataW.TrodAll enc Tryd.prog W 0 (fun _ => true) true Tryd.f4.params.toList args.toList ds p := hA0
  rw [Tryd.params4] at hA hval
  obtain ⟨v0, vs0, d0, ds0, p0, q0, hargs, rfl, rfl, h0, r0⟩ := trodAll_cons hA
  obtain ⟨v1, vs1, d1, ds1, p1, q1, rfl, rfl, rfl, h1, r1⟩ := trodAll_cons r0
  obtain ⟨rfl, rfl, rfl⟩ := trodAll_nil r1
  obtain rfl : args = #[v0, v1] := by cases args; simp_all
  obtain ⟨rfl, rfl⟩ := trodVars_none hV
  have k0 := h0
  have lt0 : ∀ x ∈ p0, x.block < W.heap.size := by obtain ⟨m, hm⟩ := k0; exact DataW.trod_lt m _ _ _ hm
  have k1 := h1
  have lt1 : ∀ x ∈ p1, x.block < W.heap.size := by obtain ⟨m, hm⟩ := k1; exact DataW.trod_lt m _ _ _ hm
  obtain ⟨s0, a0, len0, cap0, p0', ls0, rfl, ws0, wr0, wp0⟩ := op_config (hval 0 24 v0 rfl rfl) h0
  obtain ⟨⟨⟨a1⟩⟩, rfl, ed1, -, -⟩ := Go.ChangeMaps.open_string Tryd.underlying9 (hval 1 9 v1 rfl rfl) h1
  have light1 : a1.length ≤ 1048576 := by
    have h9 : Rows.uptoBulk d1 ≤ 1048576 := Nat.le_trans (Ln.bulk_mem (by simp)) hbk0
    rw [ed1] at h9
    simp only [Rows.uptoBulk] at h9
    have h8 : (⟨⟨a1⟩⟩ : ByteArray).data.toList.length = a1.length := rfl
    omega
  clear hA0 hval0
  obtain ⟨L2, L3, L4, L5, L6, L7, L8, L9⟩ := of_laid hL
  refine (Ln.linesReads_walk s0 a0 len0 cap0 p0' ls0 a1 W ws0 wr0 wp0 light1 (Ln.rdt_all L2 L6 L5 L8 L7 L9 L3 L4)).mono fun e W' ⟨he, bel⟩ => ?_
  subst he
  show ∃ v, _ ∧ Rows.linesReadsSpec.post enc Tryd.prog Tryd.f4 false true false false W _ v W'
  exact ⟨_, rfl, _, _, _, [], _, [], hW', trodAll_mk1 (shut_bool Tryd.underlying4 _), (trodAll_cons_mk (Below.trod laidOut (by kernel_rfl) (of_decide_eq_true (by kernel_rfl)) k0 bel lt0) (trodAll_cons_mk (Below.trod laidOut (by kernel_rfl) (of_decide_eq_true (by kernel_rfl)) k1 bel lt1) trodAll_mk0)), rfl, bel.frame _, fun h => by cases h⟩

theorem closed : joinedFacts Tryd.pinned.checked.prog 4 Tryd.f4 Rows.linesReadsSpec Rows.linesReadsUptoRow = true := by
  unfold joinedFacts
  rw [c_laid1, c_laid2, c_inPlace, c_unf, c_rec, c_named, c_sh, c_me, c_li, c_mk, c_pk]
  kernel_rfl
theorem over : Rows.linesReadsUptoRow.holds Tryd.pinned (Rows.OpenSpec.upto Rows.linesReadsSpec) :=
  OpenClaim.holds_of_cond 4 Tryd.f4 rfl rfl rfl rfl rfl rfl rfl ⟨rfl, rfl, rfl, rfl, rfl⟩ rfl rfl rfl rfl rfl (by kernel_rfl) Tryd.func4 closed
    (of_decide_eq_true (by kernel_rfl)) (by unfold Func.isWrapper; first | (rw [if_pos (by decide +kernel)]; kernel_rfl) | (rw [if_neg (by decide +kernel)]; exact ⟨rfl, rfl⟩))
    (fun os started H enc _ F => by rw [OpenClaim.pre_eq_preRow]; exact lifted os started H enc F)

end Go.Proofs.YtlaagfnoepcnlaaDoor.linesReadsProof
namespace Go.Proofs.YtlaagfnoepcnlaaDoor
theorem linesReads_row_holds : Rows.LinesReadsUptoSaid := linesReadsProof.over
/-- The tied card. -/
theorem linesReads_holds : Rows.LinesReadsUptoCardSaid :=
  Claim7.holds_tied_plain_at .later [] [.data, .data, .data, .sentinel, .sentinel, .data, .data, .data, .data, .data] true Rows.linesReadsUptoCard.stood.harness true
    linesReads_row_holds (fun _ h => by cases h) (by kernel_rfl) (fun _ h => by cases h) linesReadsUpto_row_tie rfl ⟨rfl, rfl⟩ (by kernel_rfl) rfl
    (fun f fn hf hfn => by
      obtain rfl : f = 4 := Option.some.inj (hf.symm.trans (by kernel_rfl))
      obtain rfl : fn = Tryd.f4 := (Option.some.inj (Tryd.func4.symm.trans hfn)).symm
      exact ⟨by kernel_rfl, fun j t ht => by
        rw [Tryd.params4] at ht
        have hm : t ∈ [24, 9] := by simpa using Array.mem_of_getElem? ht
        have hall : ([24, 9].all fun u => !Tryd.prog.wantsStandIn u) = true := by kernel_rfl
        exact (show Tryd.prog.wantsStandIn t = false by simpa using List.all_eq_true.1 hall t hm)⟩)
    (by kernel_rfl)
#print axioms linesReads_holds
end Go.Proofs.YtlaagfnoepcnlaaDoor
