/- Texts of this claim, one behind the other. -/
import Derived.Test.YtlaagfnoepcnlaaDoorM28LinesReads
import Derived.Test.YtlaagfnoepcnlaaDoorRows
import Derived.JoinedOf
import Derived.KernelRfl
/- The walk of the law LinesReads: at a config and a text of at most 1048576 bytes it returns true and leaves what was in memory. -/
namespace Go.Proofs.YtlaagfnoepcnlaaDoor.Ln
open Go.ChangeShapes Go.WideShapes Go.ChangeAt Go.RowKit
open Go.Proofs.YtlaagfnoepcnlaaDoor.St (BoxN boxn_new own_below IsRow Elem own_isRow)
set_option linter.unusedVariables false

theorem bare_nk2 : ∀ (ys zs : List AV), ys.map nk = zs.map nk → ys.map AV.bare = zs.map AV.bare := fun ys zs h => by
  have e : AV.bare = AV.bare ∘ nk := rfl
  rw [e, ← List.map_map, ← List.map_map, h]
set_option maxRecDepth 100000 in
set_option maxHeartbeats 8000000 in
theorem linesReads_walk (s : Int) (a : Option Addr) (len cap : Nat) (p : Int) (ls : List (Int × Int)) (t : List UInt8) (w : World) (hs0 : (Lit.int .i64 s).wf = true) (h : IsLabs w a len cap ls) (hp0 : (Lit.int .i64 p).wf = true) (ht : t.length ≤ 1048576) (hT : ∀ U, Below w.heap.size w U → RdT U) :
    Calls Tryd.prog 4 #[.agg #[.int .i64 s, .slice a len cap, .int .i64 p], .string ⟨t.toArray⟩] w fun e w' => e = .returned (.bool true) ∧ Below w.heap.size w w' := by
  obtain ⟨W, hW⟩ : ∃ W : World, W = w.alloc (.cells #[.int .i64 s, .slice a len cap, .int .i64 p] 24) := ⟨_, rfl⟩
  have bW : Below w.heap.size w W := by rw [hW]; exact (Below.refl _ _).alloc (Nat.le_refl _) _
  have bx : BoxN W w.heap.size 3 [.int .i64 s, .slice a len cap, .int .i64 p] := by rw [hW]; exact boxn_new w #[.int .i64 s, .slice a len cap, .int .i64 p] 24 3 rfl
  have KV : Hid (∀ U, Below W.heap.size W U → (U.cell? ⟨w.heap.size, 0, none⟩ = some (.int .i64 s) ∧ U.cell? ⟨w.heap.size, 1, none⟩ = some (.slice a len cap) ∧ U.cell? ⟨w.heap.size, 2, none⟩ = some (.int .i64 p) ∧ w.heap.size < U.heap.size) ∧ IsLabs U a len cap ls ∧ Below w.heap.size w U) := fun U hU => by
    have h1 := bx.below hU bx.lt
    exact ⟨⟨(h1.c 0 (by decide)).1, (h1.c 1 (by decide)).1, (h1.c 2 (by decide)).1, h1.lt⟩, (h.below bW).below hU, bW.trans (hU.mono bW.size)⟩
  have hR1 := read_any s p a len cap ls t W (KV.out W (Below.refl _ _)).2.1 (by omega) (fun U hU => hT U (bW.trans (hU.mono bW.size)))
  have HR2 : Hid (∀ U, Below W.heap.size W U → Calls Tryd.prog 12 #[.agg #[.int .i64 s, .slice a len cap, .int .i64 p], .string ⟨t.toArray⟩] U fun e w' => ActsOfTo s ls p t U w' e) := fun U hU => actsOf_any s p a len cap ls t U (KV.out U hU).2.1 ht
  obtain ⟨⟨c0, c1, c2, zc⟩, -, -⟩ := KV.out W (Below.refl _ _)
  clear hs0 hp0 h hT bx
  obtain ⟨R, eR⟩ : ∃ R, R = rdAll s ls p t := ⟨_, rfl⟩
  have HR : Hid (R = rdAll s ls p t) := eR
  have hR1' : Calls Tryd.prog 11 #[.agg #[.int .i64 s, .slice a len cap, .int .i64 p], .string ⟨t.toArray⟩] W fun e w' => ∃ (ao : Option Addr) (cp n : Nat) (ys : List AV), e = .returned (.tuple #[.slice ao n cp, .int .i64 R.2.1, .int .i64 R.2.2]) ∧ IsActs w' ao n cp ys ∧ ys.map nk = R.1 ∧ Below W.heap.size W w' := hR1.mono fun e w' ⟨ao, cp, ys, he, hO, hys, hk, hb⟩ => ⟨ao, cp, ys.length, ys, by rw [eR]; exact he, hO.isActs.2, by rw [eR]; exact hys, hb⟩
  have HR2' : Hid (∀ U, Below W.heap.size W U → Calls Tryd.prog 12 #[.agg #[.int .i64 s, .slice a len cap, .int .i64 p], .string ⟨t.toArray⟩] U fun e w' => ∃ (ao : Option Addr) (cp n : Nat) (ys : List AV), e = .returned (.tuple #[.slice ao n cp, .int .i64 R.2.1, .int .i64 R.2.2]) ∧ IsActs w' ao n cp ys ∧ ys.map nk = R.1 ∧ Below U.heap.size U w') := fun U hU => (HR2.out U hU).mono fun e w' ⟨ao, cp, ys, he, hO, hys, hb⟩ => ⟨ao, cp, ys.length, ys, by rw [eR]; exact he, hO.isActs.2, by rw [eR]; exact hys, hb⟩
  obtain ⟨I, eI⟩ : ∃ I, I = R.2.1 := ⟨_, rfl⟩
  obtain ⟨E, eE⟩ : ∃ E, E = R.2.2 := ⟨_, rfl⟩
  rw [← eI, ← eE] at hR1' HR2'
  clear hR1 HR2 eR eI eE HR
  go_enter Tryd.func4, Tryd.ntmps4
  go_upto_region 1 with (fail)
  rw [← hW]
  clear hW
  go_upto_region 2 with (go_at_call 11; refine hR1'.mono ?_; rintro e u1 ⟨a1, k1, n1, xs, rfl, hI1, hx1, hu1⟩)
  clear c0 c1 c2 zc hR1'
  obtain ⟨⟨c0, c1, c2, zc⟩, -, -⟩ := KV.out u1 hu1
  have hR2 := HR2'.out u1 hu1
  have HU1 : Hid (Below W.heap.size W u1) := hu1
  have HI1 : Hid (IsActs u1 a1 n1 k1 xs ∧ xs.map nk = R.1) := ⟨hI1, hx1⟩
  clear hu1 hI1 hx1 HR2'
  go_upto_region 3 with (go_at_call 12; refine hR2.mono ?_; rintro e u2 ⟨a2, k2, n2, ys, rfl, hI2, hx2, hu2⟩)
  clear c0 c1 c2 zc hR2
  have hl : n1 = n2 := by
    have h1 := congrArg List.length HI1.out.2
    have h2 := congrArg List.length hx2
    have h3 := HI1.out.1.1
    have h4 := hI2.1
    simp at h1 h2
    omega
  subst hl
  have hSm := sameActsL a1 a2 n1 k1 k2 xs ys u2 (HI1.out.1.below hu2) hI2 (bare_nk2 _ _ (by rw [HI1.out.2, hx2]))
  have hbw : Below w.heap.size w u2 := (KV.out u2 (HU1.out.trans (hu2.mono HU1.out.size))).2.2
  have HBW : Hid (Below w.heap.size w u2) := hbw
  clear HI1 hI2 hx2 hu2 HU1 KV hbw
  go_wp2_with (go_at_call 13; refine hSm.mono ?_; rintro e u5 ⟨rfl, hu5⟩; have hbe := HBW.out.trans (hu5.mono HBW.out.size))
  go_ret
  exact ⟨rfl, hbe⟩
end Go.Proofs.YtlaagfnoepcnlaaDoor.Ln
/- Closed facts of the row of LinesReads, by the kernel. -/
namespace Go.Proofs.YtlaagfnoepcnlaaDoor.linesReadsProof
set_option maxRecDepth 100000
theorem c_inPlace : (Rows.linesReadsUptoRow.inPlace == Tryd.pinned.checked.prog.inPlace 4) = true := by kernel_rfl
end Go.Proofs.YtlaagfnoepcnlaaDoor.linesReadsProof
/- Closed facts of the row of LinesReads, by the kernel. -/
namespace Go.Proofs.YtlaagfnoepcnlaaDoor.linesReadsProof
set_option maxRecDepth 100000
theorem c_unf : (Rows.linesReadsUptoRow.unfollowed == Tryd.pinned.checked.prog.unfollowed 4) = true := by kernel_rfl
end Go.Proofs.YtlaagfnoepcnlaaDoor.linesReadsProof
