/- Proved here: the law ConsoleShows returns true at every input whose bulk is at most 1048576, and each argument reads afterwards as it read before. No further condition. -/
import Derived.Test.YtgohpgollpjlnaaDoorRows
import Derived.Test.YtgohpgollpjlnaaDoorA1ConsoleShows
import Derived.Test.YtgohpgollpjlnaaDoorA3ConsoleShows
import Derived.Test.YtgohpgollpjlnaaDoorA20ConsoleShows
import Derived.Test.YtgohpgollpjlnaaDoorA25ConsoleShows
import Derived.Test.YtgohpgollpjlnaaDoorM26ConsoleShows
import Derived.Test.YtgohpgollpjlnaaDoorM33ConsoleShows
import Derived.Test.YtgohpgollpjlnaaDoorTie
import Derived.Test.YtgohpgollpjlnaaDoorCards
import Derived.Test.YtgohpgollpjlnaaDoorM34ConsoleShows
import Derived.Test.YtgohpgollpjlnaaDoorM35ConsoleShows
import Derived.LaidMore
import Derived.Stop.Joined
import Derived.SevenTiedAt
import Derived.Lay
import Derived.LaidOnce
import Derived.WalkKit
import Derived.ProofKit
import Derived.OpenShut
import Derived.ShutString
import Derived.ChangeOld
import Derived.Below
import Derived.Deep.DeepHandedRow
import Derived.SizedLaws
namespace Go.Proofs.YtgohpgollpjlnaaDoor.consoleShowsProof
open Go.ChangeShapes Go.WideShapes Go.ChangeAt Go.RowKit
set_option linter.unusedVariables false

theorem own : ownKnob Tryd.prog.godebug = none := by kernel_rfl
theorem laidOut : laidOutB Tryd.prog = true := by kernel_rfl

/-- What the condition gives the walk. -/
theorem of_laid {W : World} (h : laidMetH Tryd.prog Rows.consoleShowsUptoRow.laid W) : Lib.TabIs Tryd.prog W "internal/strconv.uint64pow10" .u64 Lib.pow10Tab := by
  rw [MakeChecks.laidMetH_plain _ _ _ (by kernel_rfl)] at h
  obtain ⟨ps, ⟨g0, t0, cs0, f0, p0, q0, hg0, ht0, hv0, hd0, ⟨g1, t1, cs1, f1, p1, q1, hg1, ht1, hv1, hd1, ⟨g2, t2, cs2, f2, p2, q2, hg2, ht2, hv2, hd2, _, _⟩, _⟩, _⟩, _, _⟩ := h
  obtain rfl : g2 = 3 := Option.some.inj (hg2.symm.trans (by kernel_rfl))
  obtain rfl : t2 = 184 := Option.some.inj (ht2.symm.trans (by kernel_rfl))
  exact (by unfold Lib.TabIs; rw [hv2, ← Lib.cells_of_tab Tryd.underlying184 Tryd.underlying164 (by kernel_rfl) (by kernel_rfl) hd2])

set_option maxRecDepth 100000 in
set_option maxHeartbeats 1000000 in
theorem lifted (os : Os) (started : os.Started) (H : Type) (enc : TypeId × Value → H) (FI : Stop.Interp) :
    ReturnsInHanded {} Tryd.checked os 4 .any ((Rows.OpenSpec.upto Rows.consoleShowsSpec).preRow enc Tryd.prog Tryd.f4 Rows.consoleShowsUptoRow.domain false Rows.consoleShowsUptoRow.laid) (((Rows.OpenSpec.upto Rows.consoleShowsSpec).at FI).post enc Tryd.prog Tryd.f4 false true false false) := by
  have hs : (DataW.whole enc Tryd.prog ((World.laidAll Tryd.prog os Rows.consoleShowsUptoRow.laid).forCall (fun _ _ => 0) ⟨#[], #[.agg #[.int .i64 0, .slice none 0 0, .int .i64 0], .int .i64 0, .slice none 0 0, .slice none 0 0, .agg #[.int .i64 0, .int .i64 0, .int .i64 0, .int .i64 0, .bool false]], []⟩).memory Tryd.f4.params.toList (Rows.OpenSpec.upto Rows.consoleShowsSpec).vars false (#[.agg #[.int .i64 0, .slice none 0 0, .int .i64 0], .int .i64 0, .slice none 0 0, .slice none 0 0, .agg #[.int .i64 0, .int .i64 0, .int .i64 0, .int .i64 0, .bool false]] : Array Value).toList 8).isSome = true := by kernel_rfl
  have hok : Input.okWideB Tryd.checked.prog ((World.laidAll Tryd.prog os Rows.consoleShowsUptoRow.laid).forCall (fun _ _ => 0) ⟨#[], #[.agg #[.int .i64 0, .slice none 0 0, .int .i64 0], .int .i64 0, .slice none 0 0, .slice none 0 0, .agg #[.int .i64 0, .int .i64 0, .int .i64 0, .int .i64 0, .bool false]], []⟩) 4 ⟨#[], #[.agg #[.int .i64 0, .slice none 0 0, .int .i64 0], .int .i64 0, .slice none 0 0, .slice none 0 0, .agg #[.int .i64 0, .int .i64 0, .int .i64 0, .int .i64 0, .bool false]], []⟩ = true := by kernel_rfl
  refine returnsInHanded_of_row (C := Tryd.checked) (s := (Rows.OpenSpec.upto Rows.consoleShowsSpec)) own started (by kernel_rfl) Tryd.func4
    ⟨(World.laidAll Tryd.prog os Rows.consoleShowsUptoRow.laid), fun _ _ => 0, ⟨#[], #[.agg #[.int .i64 0, .slice none 0 0, .int .i64 0], .int .i64 0, .slice none 0 0, .slice none 0 0, .agg #[.int .i64 0, .int .i64 0, .int .i64 0, .int .i64 0, .bool false]], []⟩, World.laidAll_os _ _ _, World.shaped_of_ZipB (by kernel_rfl) (by kernel_rfl), (Input.okWide_of_okWideB (base := 0) hok).1, (Input.okWide_of_okWideB hok).2, OpenSpec.preRow_of_cond 8 (x := (DataW.whole enc Tryd.prog ((World.laidAll Tryd.prog os Rows.consoleShowsUptoRow.laid).forCall (fun _ _ => 0) ⟨#[], #[.agg #[.int .i64 0, .slice none 0 0, .int .i64 0], .int .i64 0, .slice none 0 0, .slice none 0 0, .agg #[.int .i64 0, .int .i64 0, .int .i64 0, .int .i64 0, .bool false]], []⟩).memory Tryd.f4.params.toList (Rows.OpenSpec.upto Rows.consoleShowsSpec).vars false (#[.agg #[.int .i64 0, .slice none 0 0, .int .i64 0], .int .i64 0, .slice none 0 0, .slice none 0 0, .agg #[.int .i64 0, .int .i64 0, .int .i64 0, .int .i64 0, .bool false]] : Array Value).toList 8).get hs) (Option.some_get hs).symm (by kernel_rfl) (fun k hk => by cases hk; kernel_rfl) (by kernel_rfl) (by rw [MakeChecks.laidMetH_plain _ _ _ (by kernel_rfl)]; exact laidMet_laidAll _ (by kernel_rfl) (by kernel_rfl)), by simp only [Assume.holds]; exact ⟨by simp, by simp, fun _ => Modest.zero, by simp, by simp⟩⟩ ?_
  intro W base args ds gs before hval0 hW _ hcond hsz0 hL hsh _
  have hbk0 := of_decide_eq_true (hcond _ rfl)
  have hval : ∀ (j : Nat) t v, Tryd.f4.params[j]? = some t → args[j]? = some v → Value.okWide Tryd.prog W .any base t v := hval0
  have hW' := hW
  obtain ⟨p, q, hA0, hV, rfl, hfz, hnd⟩ := hW
  have hA : DataW.TrodAll enc Tryd.prog W 0 (fun _ => true) true Tryd.f4.params.toList args.toList ds p := hA0
  rw [Tryd.params4] at hA hval
  obtain ⟨v0, vs0, d0, ds0, p0, q0, hargs, rfl, rfl, h0, r0⟩ := trodAll_cons hA
  obtain ⟨v1, vs1, d1, ds1, p1, q1, rfl, rfl, rfl, h1, r1⟩ := trodAll_cons r0
  obtain ⟨v2, vs2, d2, ds2, p2, q2, rfl, rfl, rfl, h2, r2⟩ := trodAll_cons r1
  obtain ⟨v3, vs3, d3, ds3, p3, q3, rfl, rfl, rfl, h3, r3⟩ := trodAll_cons r2
  obtain ⟨v4, vs4, d4, ds4, p4, q4, rfl, rfl, rfl, h4, r4⟩ := trodAll_cons r3
  obtain ⟨rfl, rfl, rfl⟩ := trodAll_nil r4
  obtain rfl : args = #[v0, v1, v2, v3, v4] := by cases args; simp_all
  obtain ⟨rfl, rfl⟩ := trodVars_none hV
  have k0 := h0
  have lt0 : ∀ x ∈ p0, x.block < W.heap.size := by obtain ⟨m, hm⟩ := k0; exact DataW.trod_lt m _ _ _ hm
  have k1 := h1
  have lt1 : ∀ x ∈ p1, x.block < W.heap.size := by obtain ⟨m, hm⟩ := k1; exact DataW.trod_lt m _ _ _ hm
  have k2 := h2
  have lt2 : ∀ x ∈ p2, x.block < W.heap.size := by obtain ⟨m, hm⟩ := k2; exact DataW.trod_lt m _ _ _ hm
  have k3 := h3
  have lt3 : ∀ x ∈ p3, x.block < W.heap.size := by obtain ⟨m, hm⟩ := k3; exact DataW.trod_lt m _ _ _ hm
  have k4 := h4
  have lt4 : ∀ x ∈ p4, x.block < W.heap.size := by obtain ⟨m, hm⟩ := k4; exact DataW.trod_lt m _ _ _ hm
  obtain ⟨s0, a0, len0, cap0, p0', ls0, rfl, ws0, wr0, wp0⟩ := op_config (hval 0 32 v0 rfl rfl) h0
  obtain ⟨a1, rfl, wa1⟩ := op_int (hval 1 3 v1 rfl rfl) h1
  obtain ⟨sa2, sn2, sc2, ss2, rfl, wS2, wl2⟩ := Pt.op_stores (hval 2 33 v2 rfl rfl) h2
  obtain ⟨na3, nn3, nc3, nl3, rfl, wN3, wl3, wb3⟩ := Cn.op_nls (hval 3 34 v3 rfl rfl) h3
  obtain ⟨xk4, xl4, xs4, xn4, xy4, rfl⟩ := Cn.op_command (hval 4 25 v4 rfl rfl) h4
  have light2 : St.LightN 33 d2 := fun n hn => by
    have := List.all_eq_true.1 hsz0 n (DataW.weights_mem_each (j := 2) (t := 33) (d := d2) (by rw [Tryd.params4]; rfl) rfl n hn)
    simpa using this
  have light3 : St.LightN 34 d3 := fun n hn => by
    have := List.all_eq_true.1 hsz0 n (DataW.weights_mem_each (j := 3) (t := 34) (d := d3) (by rw [Tryd.params4]; rfl) rfl n hn)
    simpa using this
  have bulk3 : Rows.uptoBulk d3 ≤ 1048576 := Nat.le_trans (Cn.bulk_mem (by simp)) hbk0
  clear hA0 hval0
  have L2 := of_laid hL
  refine (Cn.consoleShows_walk s0 a0 len0 cap0 p0' ls0 a1 sa2 sn2 sc2 ss2 na3 nn3 nc3 nl3 xk4 xl4 xs4 xn4 xy4 W ws0 wr0 wp0 wa1 wS2 (wl2 light2).1 wN3 (wl3 light3) (wb3 bulk3)  (Cn.tab_all L2) ).mono fun e W' ⟨he, bel⟩ => ?_
  subst he
  show ∃ v, _ ∧ Rows.consoleShowsSpec.post enc Tryd.prog Tryd.f4 false true false false W _ v W'
  exact ⟨_, rfl, _, _, _, [], _, [], hW', trodAll_mk1 (shut_bool Tryd.underlying4 _), (trodAll_cons_mk (Below.trod laidOut (by kernel_rfl) (of_decide_eq_true (by kernel_rfl)) k0 bel lt0) (trodAll_cons_mk (Below.trod laidOut (by kernel_rfl) (of_decide_eq_true (by kernel_rfl)) k1 bel lt1) (trodAll_cons_mk (Below.trod laidOut (by kernel_rfl) (of_decide_eq_true (by kernel_rfl)) k2 bel lt2) (trodAll_cons_mk (Below.trod laidOut (by kernel_rfl) (of_decide_eq_true (by kernel_rfl)) k3 bel lt3) (trodAll_cons_mk (Below.trod laidOut (by kernel_rfl) (of_decide_eq_true (by kernel_rfl)) k4 bel lt4) trodAll_mk0))))), rfl, bel.frame _, fun h => by cases h⟩

theorem closed : joinedFacts Tryd.pinned.checked.prog 4 Tryd.f4 Rows.consoleShowsSpec Rows.consoleShowsUptoRow = true := by
  unfold joinedFacts
  rw [c_laid1, c_laid2, c_inPlace, c_unf, c_rec, c_named, c_sh, c_me, c_li, c_mk, c_pk]
  kernel_rfl
theorem over : Rows.consoleShowsUptoRow.holds Tryd.pinned (Rows.OpenSpec.upto Rows.consoleShowsSpec) :=
  OpenClaim.holds_of_cond 4 Tryd.f4 rfl rfl rfl rfl rfl rfl rfl ⟨rfl, rfl, rfl, rfl, rfl⟩ rfl rfl rfl rfl rfl (by kernel_rfl) Tryd.func4 closed
    (of_decide_eq_true (by kernel_rfl)) (by unfold Func.isWrapper; first | (rw [if_pos (by decide +kernel)]; kernel_rfl) | (rw [if_neg (by decide +kernel)]; exact ⟨rfl, rfl⟩))
    (fun os started H enc _ F => by rw [OpenClaim.pre_eq_preRow]; exact lifted os started H enc F)

end Go.Proofs.YtgohpgollpjlnaaDoor.consoleShowsProof
namespace Go.Proofs.YtgohpgollpjlnaaDoor
theorem consoleShows_row_holds : Rows.ConsoleShowsUptoSaid := consoleShowsProof.over
/-- The tied card. -/
theorem consoleShows_holds : Rows.ConsoleShowsUptoCardSaid :=
  Claim7.holds_tied_plain_at .later [] [.data, .data, .data] true Rows.consoleShowsUptoCard.stood.harness true
    consoleShows_row_holds (fun _ h => by cases h) (by kernel_rfl) (fun _ h => by cases h) consoleShowsUpto_row_tie rfl ⟨rfl, rfl⟩ (by kernel_rfl) rfl
    (fun f fn hf hfn => by
      obtain rfl : f = 4 := Option.some.inj (hf.symm.trans (by kernel_rfl))
      obtain rfl : fn = Tryd.f4 := (Option.some.inj (Tryd.func4.symm.trans hfn)).symm
      exact ⟨by kernel_rfl, fun j t ht => by
        rw [Tryd.params4] at ht
        have hm : t ∈ [32, 3, 33, 34, 25] := by simpa using Array.mem_of_getElem? ht
        have hall : ([32, 3, 33, 34, 25].all fun u => !Tryd.prog.wantsStandIn u) = true := by kernel_rfl
        exact (show Tryd.prog.wantsStandIn t = false by simpa using List.all_eq_true.1 hall t hm)⟩)
    (by kernel_rfl)
#print axioms consoleShows_holds
end Go.Proofs.YtgohpgollpjlnaaDoor
