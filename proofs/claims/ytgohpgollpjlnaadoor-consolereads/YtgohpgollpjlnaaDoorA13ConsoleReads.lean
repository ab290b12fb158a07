/- Proved here: the law ConsoleReads returns true at every input, and each argument reads afterwards as it read before. No further condition. -/
import Derived.Test.YtgohpgollpjlnaaDoorRows
import Derived.Test.YtgohpgollpjlnaaDoorA1ConsoleReads
import Derived.Test.YtgohpgollpjlnaaDoorM3ConsoleReads
import Derived.Test.YtgohpgollpjlnaaDoorM5ConsoleReads
import Derived.Test.YtgohpgollpjlnaaDoorM10ConsoleReads
import Derived.Test.YtgohpgollpjlnaaDoorTie
import Derived.Test.YtgohpgollpjlnaaDoorCards
import Derived.Test.YtgohpgollpjlnaaDoorM11ConsoleReads
import Derived.Test.YtgohpgollpjlnaaDoorM12ConsoleReads
import Derived.LaidMore
import Derived.Stop.Joined
import Derived.SevenTiedAt
import Derived.Lay
import Derived.LaidOnce
import Derived.WalkKit
import Derived.ProofKit
import Derived.OpenShut
import Derived.ShutString
import Derived.ChangeOld
import Derived.Below
import Derived.ChangeMaps5
namespace Go.Proofs.YtgohpgollpjlnaaDoor.consoleReadsProof
open Go.ChangeShapes Go.WideShapes Go.ChangeAt Go.RowKit
set_option linter.unusedVariables false

theorem own : ownKnob Tryd.prog.godebug = none := by kernel_rfl
theorem laidOut : laidOutB Tryd.prog = true := by kernel_rfl

/-- What the condition gives the walk. -/
theorem of_laid {W : World} (h : laidMetH Tryd.prog Rows.consoleReadsRow.laid W) : Lib.TabIs Tryd.prog W "internal/strconv.uint64pow10" .u64 Lib.pow10Tab ∧ Cn.IfAt W 5 ∧ Cn.IfAt W 4 := by
  rw [MakeChecks.laidMetH_plain _ _ _ (by kernel_rfl)] at h
  obtain ⟨ps, ⟨g0, t0, cs0, f0, p0, q0, hg0, ht0, hv0, hd0, ⟨g1, t1, cs1, f1, p1, q1, hg1, ht1, hv1, hd1, ⟨g2, t2, cs2, f2, p2, q2, hg2, ht2, hv2, hd2, ⟨g3, t3, cs3, f3, p3, q3, hg3, ht3, hv3, hd3, ⟨g4, t4, cs4, f4, p4, q4, hg4, ht4, hv4, hd4, ⟨g5, t5, cs5, f5, p5, q5, hg5, ht5, hv5, hd5, ⟨g6, t6, cs6, f6, p6, q6, hg6, ht6, hv6, hd6, _, _⟩, _⟩, _⟩, _⟩, _⟩, _⟩, _⟩, _, _⟩ := h
  obtain rfl : g2 = 3 := Option.some.inj (hg2.symm.trans (by kernel_rfl))
  obtain rfl : t2 = 184 := Option.some.inj (ht2.symm.trans (by kernel_rfl))
  obtain rfl : g4 = 5 := Option.some.inj (hg4.symm.trans (by kernel_rfl))
  obtain rfl : t4 = 101 := Option.some.inj (ht4.symm.trans (by kernel_rfl))
  obtain rfl : g5 = 4 := Option.some.inj (hg5.symm.trans (by kernel_rfl))
  obtain rfl : t5 = 101 := Option.some.inj (ht5.symm.trans (by kernel_rfl))
  exact ⟨by unfold Lib.TabIs; rw [hv2, ← Lib.cells_of_tab Tryd.underlying184 Tryd.underlying164 (by kernel_rfl) (by kernel_rfl) hd2], by obtain ⟨_, u, v, e, _, _⟩ := iface_of_trod Tryd.underlying101 hd4; exact ⟨.iface u v, (World.var?_cell hg4 hv4 0).trans (by rw [← Array.getElem?_toList, e]; rfl), Or.inr ⟨u, v, rfl⟩⟩, by obtain ⟨_, u, v, e, _, _⟩ := iface_of_trod Tryd.underlying101 hd5; exact ⟨.iface u v, (World.var?_cell hg5 hv5 0).trans (by rw [← Array.getElem?_toList, e]; rfl), Or.inr ⟨u, v, rfl⟩⟩⟩

set_option maxRecDepth 100000 in
set_option maxHeartbeats 1000000 in
theorem lifted (os : Os) (started : os.Started) (H : Type) (enc : TypeId × Value → H) :
    ReturnsInHanded {} Tryd.checked os 3 .any (fun w args => (Rows.consoleReadsSpec.pre enc Tryd.prog Tryd.f3 [] false w args ∧ laidMetH Tryd.prog Rows.consoleReadsRow.laid w) ∧ sizedMet enc Tryd.prog Tryd.f3 (OpenSpec.ofChange Rows.consoleReadsSpec) false w args)
      (Rows.consoleReadsSpec.post enc Tryd.prog Tryd.f3 false true false false) := by
  refine returnsBoth (C := Tryd.checked) (X := fun w _ => laidMetH Tryd.prog Rows.consoleReadsRow.laid w) (fun _ _ _ hh h => h.of_heap hh) own started (by kernel_rfl) Tryd.func3
    (ChangeSpec.witness_shaped (enc := enc) (C := Tryd.checked) (os := os) (X := fun w _ => laidMetH Tryd.prog Rows.consoleReadsRow.laid w) false (World.laidAll Tryd.prog os Rows.consoleReadsRow.laid) #[.string .empty] 8 (World.laidAll_os _ _ _) (World.shaped_of_ZipB (by kernel_rfl) (by kernel_rfl)) (by kernel_rfl) (by kernel_rfl) (by kernel_rfl) (by rw [MakeChecks.laidMetH_plain _ _ _ (by kernel_rfl)]; exact laidMet_laidAll _ (by kernel_rfl) (by kernel_rfl))) ?_
  intro W base args ds gs before hval0 hW _ _ hL hsh _
  have hval : ∀ (j : Nat) t v, Tryd.f3.params[j]? = some t → args[j]? = some v → Value.okWide Tryd.prog W .any base t v := hval0
  have hW' := hW
  obtain ⟨p, q, hA0, hV, rfl, hfz, hnd⟩ := hW
  have hA : DataW.TrodAll enc Tryd.prog W 0 (fun _ => true) true Tryd.f3.params.toList args.toList ds p := hA0
  rw [Tryd.params3] at hA hval
  obtain ⟨v0, vs0, d0, ds0, p0, q0, hargs, rfl, rfl, h0, r0⟩ := trodAll_cons hA
  obtain ⟨rfl, rfl, rfl⟩ := trodAll_nil r0
  obtain rfl : args = #[v0] := by cases args; simp_all
  obtain ⟨rfl, rfl⟩ := trodVars_none hV
  have k0 := h0
  have lt0 : ∀ x ∈ p0, x.block < W.heap.size := by obtain ⟨m, hm⟩ := k0; exact DataW.trod_lt m _ _ _ hm
  obtain ⟨a0, rfl, -, -, wa0⟩ := Go.ChangeMaps.open_string Tryd.underlying9 (hval 0 9 v0 rfl rfl) h0
  clear hA0 hval0
  obtain ⟨L2, L4, L5⟩ := of_laid hL
  refine (Cn.consoleReads_walk a0 W wa0 (Cn.cnw_all L2 L4 L5 hsh) ).mono fun e W' ⟨he, bel⟩ => ?_
  subst he
  exact ⟨_, rfl, _, _, _, [], _, [], hW', trodAll_mk1 (shut_bool Tryd.underlying4 _), (trodAll_cons_mk (Below.trod laidOut (by kernel_rfl) (of_decide_eq_true (by kernel_rfl)) k0 bel lt0) trodAll_mk0), rfl, bel.frame _, fun h => by cases h⟩

theorem closed : joinedFacts Tryd.pinned.checked.prog 3 Tryd.f3 Rows.consoleReadsSpec Rows.consoleReadsRow = true := by
  unfold joinedFacts
  rw [c_laid1, c_laid2, c_inPlace, c_unf, c_rec, c_named, c_sh, c_me, c_li, c_mk, c_pk]
  kernel_rfl
theorem over : Rows.consoleReadsRow.holds Tryd.pinned (OpenSpec.ofChange Rows.consoleReadsSpec) :=
  OpenClaim.holds_of_wide 3 Tryd.f3 rfl rfl rfl rfl rfl rfl rfl ⟨rfl, rfl, rfl, rfl, rfl⟩ rfl rfl rfl rfl rfl (by kernel_rfl) Tryd.func3 closed
    (of_decide_eq_true (by kernel_rfl)) (by unfold Func.isWrapper; first | (rw [if_pos (by decide +kernel)]; kernel_rfl) | (rw [if_neg (by decide +kernel)]; exact ⟨rfl, rfl⟩))
    (fun os started H enc _ => lifted os started H enc)

end Go.Proofs.YtgohpgollpjlnaaDoor.consoleReadsProof
namespace Go.Proofs.YtgohpgollpjlnaaDoor
theorem consoleReads_row_holds : Rows.ConsoleReadsSaid := consoleReadsProof.over
/-- The tied card. -/
theorem consoleReads_holds : Rows.ConsoleReadsCardSaid :=
  Claim7.holds_tied_plain_at .later [] [.data, .data, .data, .data, .sentinel, .sentinel, .pinned] true Rows.consoleReadsCard.stood.harness true
    consoleReads_row_holds (fun _ h => by cases h) (by kernel_rfl) (fun _ h => by cases h) consoleReads_row_tie rfl ⟨rfl, rfl⟩ (by kernel_rfl) rfl
    (fun f fn hf hfn => by
      obtain rfl : f = 3 := Option.some.inj (hf.symm.trans (by kernel_rfl))
      obtain rfl : fn = Tryd.f3 := (Option.some.inj (Tryd.func3.symm.trans hfn)).symm
      exact ⟨by kernel_rfl, fun j t ht => by
        rw [Tryd.params3] at ht
        have hm : t ∈ [9] := by simpa using Array.mem_of_getElem? ht
        have hall : ([9].all fun u => !Tryd.prog.wantsStandIn u) = true := by kernel_rfl
        exact (show Tryd.prog.wantsStandIn t = false by simpa using List.all_eq_true.1 hall t hm)⟩)
    (by kernel_rfl)
#print axioms consoleReads_holds
end Go.Proofs.YtgohpgollpjlnaaDoor
