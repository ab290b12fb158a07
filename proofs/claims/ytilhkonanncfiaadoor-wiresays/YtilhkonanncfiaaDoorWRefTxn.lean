/- The contract of the document's txnBytes: a transaction as four bytes, in new memory. -/
import Derived.Test.YtilhkonanncfiaaDoorWRefBytes
import Derived.Test.YtilhkonanncfiaaDoorJoined
import Derived.Deep.RegionHeld3
import Derived.Deep.DeepCutAuto
namespace Go.Proofs.YtilhkonanncfiaaDoor
open Go.ChangeShapes Go.WideShapes Go.ChangeAt Go.RowKit
set_option linter.unusedVariables false

theorem jA {W V : World} (h : Below W.heap.size W V) (ob : Obj) : Below W.heap.size W (V.alloc ob) := h.alloc h.size ob
theorem jD {W V : World} (h : Below W.heap.size W V) : Below W.heap.size W V.drew := h.drew
theorem jT {W V V' : World} (h : Below W.heap.size W V) (hb : Below V.heap.size V V') : Below W.heap.size W V' := h.trans (hb.mono h.size)
theorem jB {w : World} {b c : Nat} {e : TypeId} {size : Nat} {v : Value} {n : Nat} {xs : List Value} (h : w.ownsRow b e size v n xs) (hc : c ≤ b) : w.ownsRow c e size v n xs := by
  refine ⟨h.1, ?_⟩
  rcases h.2 with h2 | ⟨g, cap, cur, hv, hb, r⟩
  · exact .inl h2
  · exact .inr ⟨g, cap, cur, hv, Nat.le_trans hc hb, r⟩
theorem isBs_two (U : World) (a1 a2 : Option Addr) (l1 l2 c1 c2 : Nat) (b1 b2 : List Int) (t : TypeId) (h1 : IsB U a1 l1 c1 b1) (h2 : IsB U a2 l2 c2 b2) : IsBs (U.alloc (.cells #[.slice a1 l1 c1, .slice a2 l2 c2] t)) U.heap.size 2 [⟨a1, l1, c1, b1⟩, ⟨a2, l2, c2, b2⟩] := by
  have hb : Below U.heap.size U (U.alloc (.cells #[.slice a1 l1 c1, .slice a2 l2 c2] t)) := (Below.refl _ _).alloc (Nat.le_refl _) _
  refine ⟨rfl, by simp, fun i hi => ?_⟩
  rcases (by omega : i = 0 ∨ i = 1) with rfl | rfl
  · exact ⟨by go_simp, h1.below hb⟩
  · exact ⟨by go_simp, h2.below hb⟩
theorem isBs_four (U : World) (a1 a2 a3 a4 : Option Addr) (l1 l2 l3 l4 c1 c2 c3 c4 : Nat) (b1 b2 b3 b4 : List Int) (t : TypeId) (h1 : IsB U a1 l1 c1 b1) (h2 : IsB U a2 l2 c2 b2) (h3 : IsB U a3 l3 c3 b3) (h4 : IsB U a4 l4 c4 b4) : IsBs (U.alloc (.cells #[.slice a1 l1 c1, .slice a2 l2 c2, .slice a3 l3 c3, .slice a4 l4 c4] t)) U.heap.size 4 [⟨a1, l1, c1, b1⟩, ⟨a2, l2, c2, b2⟩, ⟨a3, l3, c3, b3⟩, ⟨a4, l4, c4, b4⟩] := by
  have hb : Below U.heap.size U (U.alloc (.cells #[.slice a1 l1 c1, .slice a2 l2 c2, .slice a3 l3 c3, .slice a4 l4 c4] t)) := (Below.refl _ _).alloc (Nat.le_refl _) _
  refine ⟨rfl, by simp, fun i hi => ?_⟩
  rcases (by omega : i = 0 ∨ i = 1 ∨ i = 2 ∨ i = 3) with rfl | rfl | rfl | rfl
  · exact ⟨by go_simp, h1.below hb⟩
  · exact ⟨by go_simp, h2.below hb⟩
  · exact ⟨by go_simp, h3.below hb⟩
  · exact ⟨by go_simp, h4.below hb⟩

set_option maxRecDepth 100000 in
set_option maxHeartbeats 4000000 in
theorem txnBytes_any (site num : Int) (w : World) (hs : 0 ≤ site ∧ site < 256) (hn : 0 ≤ num ∧ num ≤ 9223372036854775807) :
    Calls Tryd.prog 20 #[.agg #[.int .i64 site, .int .i64 num]] w fun e w' => ∃ a' c', e = .returned (.slice a' 4 c') ∧ w'.ownsRow w.heap.size 5 1 (.slice a' 4 c') 4 (bytesV (be site 1 ++ be num 3)) ∧ Below w.heap.size w w' := by
  have h1 := fun w' => bytesOf_any site 1 w' hs.1 (by omega) (by omega) (by omega)
  have h3 := fun w' => bytesOf_any num 3 w' hn.1 hn.2 (by omega) (by omega)
  obtain ⟨W, hW⟩ : ∃ W : World, W = w.alloc (.cells #[.int .i64 site, .int .i64 num] 26) := ⟨_, rfl⟩
  have hB : Below w.heap.size w W := by rw [hW]; exact (Below.refl _ _).alloc (Nat.le_refl _) _
  have z0 : w.heap.size < W.heap.size := by rw [hW]; simp
  have c0 : W.cell? ⟨w.heap.size, 0, none⟩ = some (.int .i64 site) := by rw [hW]; go_simp
  have c1 : W.cell? ⟨w.heap.size, 1, none⟩ = some (.int .i64 num) := by rw [hW]; go_simp
  have KA : Hid (∀ U : World, Below W.heap.size W U → U.cell? ⟨w.heap.size, 0, none⟩ = some (.int .i64 site) ∧ U.cell? ⟨w.heap.size, 1, none⟩ = some (.int .i64 num)) := fun U hU =>
    ⟨(hU.cell (p := ⟨w.heap.size, 0, none⟩) z0).trans c0, (hU.cell (p := ⟨w.heap.size, 1, none⟩) z0).trans c1⟩
  go_enter Tryd.func20, Tryd.ntmps20
  go_upto_region 1 with (fail)
  rw [← hW]
  clear hW
  go_region_held3 (fun U => U.cell? ⟨w.heap.size, 0, none⟩ = some (.int .i64 site) ∧ U.cell? ⟨w.heap.size, 1, none⟩ = some (.int .i64 num))
    (exact KA.out _ (by (with_reducible repeat (first | exact Below.refl _ _ | refine jD ?_ | refine jA ?_ _ | refine jT ?_ hb3' | refine jT ?_ hb1' | refine jT ?_ hb2')); done))
    (first
      | (go_at_call_of 21 (Value.int .i64 site); refine (h1 _).mono ?_; rintro e u1 ⟨x1, y1, rfl, own1, hb1'⟩; have K1 : Hid (∀ U, Below u1.heap.size u1 U → IsB U x1 1 y1 (be site 1)) := fun U hU => (isB_slice own1 (be_byt _ _)).1.below hU)
      | (go_at_call_of 21 (Value.int .i64 num); refine (h3 _).mono ?_; rintro e u2 ⟨x2, y2, rfl, own2, hb2'⟩; have K2 : Hid (∀ U, Below u2.heap.size u2 U → IsB U x2 3 y2 (be num 3)) := fun U hU => (isB_slice own2 (be_byt _ _)).1.below hU)
      | (go_at_call 19; refine (joined_any _ 2 _ _ (isBs_two _ x1 x2 1 3 y1 y2 (be site 1) (be num 3) _ (K1.out _ (by (with_reducible repeat (first | exact Below.refl _ _ | refine jD ?_ | refine jA ?_ _ | refine jT ?_ hb2' | refine jT ?_ hb1')); done)) (K2.out _ (by (with_reducible repeat (first | exact Below.refl _ _ | refine jD ?_ | refine jA ?_ _ | refine jT ?_ hb1' | refine jT ?_ hb2')); done))) (by omega) (by simp [catB, be_len])).mono ?_; rintro e u3 ⟨v3, rfl, own3, hb3'⟩; rw [show catB [⟨x1, 1, y1, be site 1⟩, ⟨x2, 3, y2, be num 3⟩] = be site 1 ++ be num 3 from (by simp [catB]), show (be site 1 ++ be num 3).length = 4 from (by simp [be_len])] at own3; replace own3 := jB own3 (Nat.le_trans (Nat.le_of_lt z0) (Below.size (show Below W.heap.size W _ from (by (with_reducible repeat (first | exact Below.refl _ _ | refine jD ?_ | refine jA ?_ _ | refine jT ?_ hb1' | refine jT ?_ hb2')); done)))); obtain ⟨x3, y3, rfl⟩ := own_slice own3))
  all_goals
    have hW3 : Below W.heap.size W u3 := by (with_reducible repeat (first | exact Below.refl _ _ | refine jD ?_ | refine jA ?_ _ | refine jT ?_ hb3' | refine jT ?_ hb1' | refine jT ?_ hb2')); done
    go_wp2
    go_ret
    exact ⟨x3, y3, rfl, own3, hB.trans (hW3.mono hB.size)⟩
end Go.Proofs.YtilhkonanncfiaaDoor
