/- Texts of this claim, one behind the other. -/
import Derived.Test.YtflfcjbgkpfgkaaDoorM13TapeRecovers
import Derived.Test.YtflfcjbgkpfgkaaDoorM4TapeRecovers
import Derived.Test.YtflfcjbgkpfgkaaDoorM12TapeRecovers
import Derived.Test.YtflfcjbgkpfgkaaDoorM10TapeRecovers
/- The table of widths, as the program lays it. -/
namespace Go.Proofs.YtflfcjbgkpfgkaaDoor
open Go.ChangeShapes Go.WideShapes Go.ChangeAt Go.RowKit

def WidsAt (w : World) : Prop := w.cell? ⟨2, 0, none⟩ = some (.int .i64 1) ∧ w.cell? ⟨2, 1, none⟩ = some (.int .i64 1) ∧ w.cell? ⟨2, 2, none⟩ = some (.int .i64 4) ∧ w.cell? ⟨2, 3, none⟩ = some (.int .i64 3) ∧ w.cell? ⟨2, 4, none⟩ = some (.int .i64 3) ∧ w.cell? ⟨2, 5, none⟩ = some (.int .i64 1) ∧ w.cell? ⟨2, 6, none⟩ = some (.int .i64 1) ∧ w.cell? ⟨2, 7, none⟩ = some (.int .i64 1)
theorem WidsAt.below {w w' : World} {B : Nat} (h : WidsAt w) (hb : Below B w w') (hB : 2 < B) : WidsAt w' := by
  unfold WidsAt at h ⊢
  simp only [fun i => hb.cell (p := ⟨2, i, none⟩) hB]
  exact h
theorem WidsAt.lt {w : World} (h : WidsAt w) : 2 < w.heap.size := World.block_lt_of_cell? w _ h.1
theorem WidsAt.grown {w w' : World} {row : Option Nat} (h : WidsAt w) (hg : w.grownBy w' row) (hne : some 2 ≠ row) : WidsAt w' := by
  have hlt := h.lt
  unfold WidsAt at h ⊢
  simp only [fun i => World.cell?_of_block (a := ⟨2, i, none⟩) (hg.block 2 hlt hne)]
  exact h

section
variable {H : Type} {enc : TypeId × Value → H} {W : World} {base : Nat} {sp : Nat → Bool} {held : Bool}
theorem wids_of {fuel : Nat} {cs : Array Value} {p : List MemPlace} {name : String} (hg : Tryd.prog.globalNamed name = some 2) (hv : W.var? Tryd.prog name = some cs)
    (h : DataW.trod enc Tryd.prog W base sp held fuel 91 cs.toList = some (Lib.tabData .i64 [1, 1, 4, 3, 3, 1, 1, 1], p)) : WidsAt W := by
  have e := Lib.cells_of_tab Tryd.underlying91 Tryd.underlying3 (by kernel_rfl) (by kernel_rfl) h
  have c : ∀ i, W.cell? ⟨2, i, none⟩ = (([1, 1, 4, 3, 3, 1, 1, 1] : List Int).map fun z => Value.int .i64 z)[i]? := by
    intro i
    rw [World.var?_cell hg hv, ← Array.getElem?_toList, e]
  unfold WidsAt
  simp only [c]
  simp
end
end Go.Proofs.YtflfcjbgkpfgkaaDoor
/- The contract of the reader's parts: the parts that there are, one by one. -/
namespace Go.Proofs.YtflfcjbgkpfgkaaDoor
open Go.ChangeShapes Go.WideShapes Go.ChangeAt Go.RowKit
set_option linter.unusedVariables false

theorem rp_ne {u : World} {b i j : Nat} {v : Value} (h : i ≠ j) : (u.setCell ⟨b, i, none⟩ v).cell? ⟨b, j, none⟩ = u.cell? ⟨b, j, none⟩ := by
  unfold World.setCell World.cell?
  simp only [Array.getElem?_modify]
  by_cases hb : b < u.heap.size
  · rw [Array.getElem?_eq_getElem hb]
    cases hc : u.heap[b] <;> simp [h]
  · rw [Array.getElem?_eq_none (by omega)]
    rfl
theorem rp_frozen {u : World} {b i j : Nat} {v : Value} : (u.setCell ⟨b, i, none⟩ v).frozen? ⟨b, j, none⟩ = u.frozen? ⟨b, j, none⟩ := by
  unfold World.setCell World.frozen?
  simp only [Array.getElem?_modify]
  by_cases hb : b < u.heap.size
  · rw [Array.getElem?_eq_getElem hb]
    cases hc : u.heap[b] <;> simp
  · rw [Array.getElem?_eq_none (by omega)]
    rfl

/-- The boxes of a call of parts: which parts there are; the result; the parts so far. -/
structure PBox (u : World) (B : Nat) (hs : List Bool) (qs : List Int) : Prop where
  h : ∀ i, i < 8 → u.cell? ⟨B, i, none⟩ = some (.bool (hs.getD i false))
  r : ∀ i, i < 8 → u.cell? ⟨B + 1, i, none⟩ = some (.int .i64 0) ∧ u.frozen? ⟨B + 1, i, none⟩ = false
  q : ∀ i, i < 8 → u.cell? ⟨B + 2, i, none⟩ = some (.int .i64 (qs.getD i 0)) ∧ u.frozen? ⟨B + 2, i, none⟩ = false
  sz : B + 2 < u.heap.size

theorem PBox.grown {u u' : World} {B R : Nat} {hs : List Bool} {qs : List Int} (h : PBox u B hs qs) (hg : u.grownBy u' (some R)) (hR : R < B) : PBox u' B hs qs := by
  have e : ∀ c, B ≤ c → c ≤ B + 2 → u'.heap[c]? = u.heap[c]? := fun c h1 h2 => hg.block c (by have := h.sz; omega) (by simp; omega)
  refine ⟨fun i hi => ?_, fun i hi => ⟨?_, ?_⟩, fun i hi => ⟨?_, ?_⟩, Nat.lt_of_lt_of_le h.sz hg.size⟩
  · rw [World.cell?_of_block (a := ⟨B, i, none⟩) (e B (by omega) (by omega))]; exact h.h i hi
  · rw [World.cell?_of_block (a := ⟨B + 1, i, none⟩) (e (B + 1) (by omega) (by omega))]; exact (h.r i hi).1
  · rw [World.frozen?_of_block (a := ⟨B + 1, i, none⟩) (e (B + 1) (by omega) (by omega))]; exact (h.r i hi).2
  · rw [World.cell?_of_block (a := ⟨B + 2, i, none⟩) (e (B + 2) (by omega) (by omega))]; exact (h.q i hi).1
  · rw [World.frozen?_of_block (a := ⟨B + 2, i, none⟩) (e (B + 2) (by omega) (by omega))]; exact (h.q i hi).2
theorem PBox.set {u : World} {B : Nat} {hs : List Bool} {qs : List Int} (h : PBox u B hs qs) (k : Nat) (hk : k < 8) (hq : qs.length = 8) (n : Int) : PBox (u.setCell ⟨B + 2, k, none⟩ (.int .i64 n)) B hs (qs.set k n) := by
  have e : ∀ c, c < B + 2 → (u.setCell ⟨B + 2, k, none⟩ (.int .i64 n)).heap[c]? = u.heap[c]? := fun c h1 => Below.heap_setCell u _ _ c (by show c ≠ B + 2; omega)
  refine ⟨fun i hi => ?_, fun i hi => ⟨?_, ?_⟩, fun i hi => ⟨?_, ?_⟩, by simpa using h.sz⟩
  · rw [World.cell?_of_block (a := ⟨B, i, none⟩) (e B (by omega))]; exact h.h i hi
  · rw [World.cell?_of_block (a := ⟨B + 1, i, none⟩) (e (B + 1) (by omega))]; exact (h.r i hi).1
  · rw [World.frozen?_of_block (a := ⟨B + 1, i, none⟩) (e (B + 1) (by omega))]; exact (h.r i hi).2
  · by_cases hik : k = i
    · subst hik
      rw [World.cell?_setCell_same u ⟨B + 2, k, none⟩ _ (h.q k hk).1]
      simp [List.getD, hq, hk]
    · rw [rp_ne hik, (h.q i hi).1]
      simp [List.getD, hik]
  · rw [rp_frozen]; exact (h.q i hi).2

theorem eight_list {α : Type} {l : List α} (h : l.length = 8) : ∃ a b c d e f g i, l = [a, b, c, d, e, f, g, i] := by
  match l, h with
  | [a, b, c, d, e, f, g, i], _ => exact ⟨a, b, c, d, e, f, g, i, rfl⟩

def RPart (w w' : World) (R L : Nat) (v : Value) (d : List Int × RS) : Prop :=
  ∃ q0 q1 q2 q3 q4 q5 q6 q7, v = .agg #[.int .i64 q0, .int .i64 q1, .int .i64 q2, .int .i64 q3, .int .i64 q4, .int .i64 q5, .int .i64 q6, .int .i64 q7] ∧ d.1 = [q0, q1, q2, q3, q4, q5, q6, q7] ∧ RdTo w' R L d.2 ∧ w.grownBy w' (some R)

theorem dec_true {i : Nat} {hs : List Bool} {ks : List Nat} {r : RS} {k : Nat} : decParts i (true :: hs) (k :: ks) r = ((r.part i k).1 :: (decParts (i + 1) hs ks (r.part i k).2).1, (decParts (i + 1) hs ks (r.part i k).2).2) := by simp [decParts]
theorem dec_false {i : Nat} {hs : List Bool} {ks : List Nat} {r : RS} {k : Nat} : decParts i (false :: hs) (k :: ks) r = (0 :: (decParts (i + 1) hs ks r).1, (decParts (i + 1) hs ks r).2) := by simp [decParts]

set_option maxRecDepth 100000 in
set_option maxHeartbeats 4000000 in
theorem partsR_any (R L : Nat) (st : RS) (h0 h1 h2 h3 h4 h5 h6 h7 : Bool) (w : World) (h : RdTo w R L st) (hwd : WidsAt w) (hgw : 2 < L) :
    Calls Tryd.prog 50 #[.pointer (some ⟨R, 0, none⟩), .agg #[.bool h0, .bool h1, .bool h2, .bool h3, .bool h4, .bool h5, .bool h6, .bool h7]] w fun e w' => ∃ v, e = .returned v ∧ RPart w w' R L v (decParts 0 [h0, h1, h2, h3, h4, h5, h6, h7] widL st) := by
  have hLR := h.hL
  have hRw := h.lt
  obtain ⟨W, hW⟩ : ∃ W : World, W = ((w.alloc (.cells #[.bool h0, .bool h1, .bool h2, .bool h3, .bool h4, .bool h5, .bool h6, .bool h7] 95)).alloc (.cells #[.int .i64 0, .int .i64 0, .int .i64 0, .int .i64 0, .int .i64 0, .int .i64 0, .int .i64 0, .int .i64 0] 92)).alloc (.cells #[.int .i64 0, .int .i64 0, .int .i64 0, .int .i64 0, .int .i64 0, .int .i64 0, .int .i64 0, .int .i64 0] 92) := ⟨_, rfl⟩
  have zW : W.heap.size = w.heap.size + 3 := by rw [hW]; simp
  have hG : w.grownBy W none := by
    rw [hW]
    have g1 := World.grownBy_alloc w (.cells #[.bool h0, .bool h1, .bool h2, .bool h3, .bool h4, .bool h5, .bool h6, .bool h7] 95) none
    have g2 := World.grownBy_alloc (w.alloc (.cells #[.bool h0, .bool h1, .bool h2, .bool h3, .bool h4, .bool h5, .bool h6, .bool h7] 95)) (.cells #[.int .i64 0, .int .i64 0, .int .i64 0, .int .i64 0, .int .i64 0, .int .i64 0, .int .i64 0, .int .i64 0] 92) none
    have g3 := World.grownBy_alloc ((w.alloc (.cells #[.bool h0, .bool h1, .bool h2, .bool h3, .bool h4, .bool h5, .bool h6, .bool h7] 95)).alloc (.cells #[.int .i64 0, .int .i64 0, .int .i64 0, .int .i64 0, .int .i64 0, .int .i64 0, .int .i64 0, .int .i64 0] 92)) (.cells #[.int .i64 0, .int .i64 0, .int .i64 0, .int .i64 0, .int .i64 0, .int .i64 0, .int .i64 0, .int .i64 0] 92) none
    exact (g1.trans g2).trans g3
  have b0 : W.cell? ⟨w.heap.size, 0, none⟩ = some (.bool h0) := by rw [hW]; go_simp
  have b1 : W.cell? ⟨w.heap.size, 1, none⟩ = some (.bool h1) := by rw [hW]; go_simp
  have b2 : W.cell? ⟨w.heap.size, 2, none⟩ = some (.bool h2) := by rw [hW]; go_simp
  have b3 : W.cell? ⟨w.heap.size, 3, none⟩ = some (.bool h3) := by rw [hW]; go_simp
  have b4 : W.cell? ⟨w.heap.size, 4, none⟩ = some (.bool h4) := by rw [hW]; go_simp
  have b5 : W.cell? ⟨w.heap.size, 5, none⟩ = some (.bool h5) := by rw [hW]; go_simp
  have b6 : W.cell? ⟨w.heap.size, 6, none⟩ = some (.bool h6) := by rw [hW]; go_simp
  have b7 : W.cell? ⟨w.heap.size, 7, none⟩ = some (.bool h7) := by rw [hW]; go_simp
  have PB : PBox W w.heap.size [h0, h1, h2, h3, h4, h5, h6, h7] [0, 0, 0, 0, 0, 0, 0, 0] := by
    refine ⟨fun i hi => ?_, fun i hi => ?_, fun i hi => ?_, by omega⟩
    · rcases (by omega : i = 0 ∨ i = 1 ∨ i = 2 ∨ i = 3 ∨ i = 4 ∨ i = 5 ∨ i = 6 ∨ i = 7) with rfl | rfl | rfl | rfl | rfl | rfl | rfl | rfl
      · exact b0
      · exact b1
      · exact b2
      · exact b3
      · exact b4
      · exact b5
      · exact b6
      · exact b7
    · rw [hW]
      rcases (by omega : i = 0 ∨ i = 1 ∨ i = 2 ∨ i = 3 ∨ i = 4 ∨ i = 5 ∨ i = 6 ∨ i = 7) with rfl | rfl | rfl | rfl | rfl | rfl | rfl | rfl <;> exact ⟨by go_simp, by go_simp⟩
    · rw [hW]
      rcases (by omega : i = 0 ∨ i = 1 ∨ i = 2 ∨ i = 3 ∨ i = 4 ∨ i = 5 ∨ i = 6 ∨ i = 7) with rfl | rfl | rfl | rfl | rfl | rfl | rfl | rfl <;> exact ⟨by go_simp; first | done | rfl, by go_simp⟩
  clear b0 b1 b2 b3 b4 b5 b6 b7
  have hRW : RdTo W R L st := h.grown hG (fun k hk => by cases hk)
  have hGR : w.grownBy W (some R) := ⟨hG.os, hG.tape, hG.output, hG.size, fun k hk _ => hG.block k hk (by simp)⟩
  have wW : WidsAt W := hwd.grown hG (by simp)
  obtain ⟨t0, t1, t2, t3, t4, t5, t6, t7⟩ := wW
  obtain ⟨hs, ehs⟩ : ∃ hs, hs = [h0, h1, h2, h3, h4, h5, h6, h7] := ⟨_, rfl⟩
  rw [← ehs] at PB ⊢
  have EH : Hid (hs = [h0, h1, h2, h3, h4, h5, h6, h7]) := ehs
  clear ehs
  go_enter Tryd.func50, Tryd.ntmps50
  go_upto_region 2 with (fail)
  rw [← hW]
  clear hW
  go_wp2
  go_loopw [9] (fun s9 wr => ∃ (k : Nat) (sk : RS) (qs : List Int), k ≤ 8 ∧ s9 = .int .i64 k ∧ RdTo wr R L sk ∧ qs.length = 8 ∧ PBox wr w.heap.size hs qs ∧ w.grownBy wr (some R) ∧ Hid (∀ i, k ≤ i → qs.getD i 0 = 0) ∧ Hid (decParts 0 hs widL st = (qs.take k ++ (decParts k (hs.drop k) (widL.drop k) sk).1, (decParts k (hs.drop k) (widL.drop k) sk).2))) (fun i _ => 8 - (intOf i).toNat)
  case atStart => exact ⟨0, st, [0, 0, 0, 0, 0, 0, 0, 0], by omega, rfl, hRW, rfl, PB, hGR, by intro i _; rcases (by omega : i = 0 ∨ i = 1 ∨ i = 2 ∨ i = 3 ∨ i = 4 ∨ i = 5 ∨ i = 6 ∨ i = 7 ∨ 8 ≤ i) with rfl | rfl | rfl | rfl | rfl | rfl | rfl | rfl | hh <;> first | rfl | simp [List.getD, List.getElem?_eq_none (show [(0 : Int), 0, 0, 0, 0, 0, 0, 0].length ≤ i by simpa using hh)], by show _ = _; simp⟩
  case round =>
    obtain ⟨k, sk, qs, hk, rfl, hR, hqs, hP, hgr, hz, hat⟩ := hrel
    rcases (by omega : k = 0 ∨ k = 1 ∨ k = 2 ∨ k = 3 ∨ k = 4 ∨ k = 5 ∨ k = 6 ∨ k = 7 ∨ k = 8) with rfl | rfl | rfl | rfl | rfl | rfl | rfl | rfl | rfl
    · have hx := idxA0 1 1 4 3 3 1 1 1
      have b0 : wr.cell? ⟨w.heap.size, 0, none⟩ = some (.bool h0) := (hP.h 0 (by omega)).trans (by rw [EH.out]; rfl)
      cases hb : h0 with
      | true =>
        have hn := number_any R L sk 1 _ hR (by omega)
        obtain ⟨n, r1, en⟩ : ∃ n r1, sk.num 1 = (n, r1) := ⟨_, _, rfl⟩
        rw [en] at hn
        simp only at hn
        rw [hb] at b0
        have hqs' : (qs.set 0 n).length = 8 := by simp [hqs]
        have hz' : Hid (∀ i, 1 ≤ i → (qs.set 0 n).getD i 0 = 0) := by
          show ∀ i, 1 ≤ i → (qs.set 0 n).getD i 0 = 0
          intro i hi
          have := hz.out i (by omega)
          simpa [List.getD, show 0 ≠ i by omega] using this
        have htk : (qs.set 0 n).take 1 = qs.take 0 ++ [n] := by
          obtain ⟨a0, a1, a2, a3, a4, a5, a6, a7, rfl⟩ := eight_list hqs
          rfl
        have hat' : Hid (decParts 0 hs widL st = ((qs.set 0 n).take 1 ++ (decParts 1 (hs.drop 1) (widL.drop 1) r1).1, (decParts 1 (hs.drop 1) (widL.drop 1) r1).2)) := by
          show _ = _
          rw [hat.out, htk, EH.out, hb]
          simp only [widL, List.drop_succ_cons, List.drop_zero]
          rw [dec_true]
          simp only [RS.part, show (0 : Nat) ≠ 5 by decide, false_and, if_false, en]
          simp
        clear hat hz en htk
        go_wp2_with (go_at_call 48; refine hn.mono ?_; rintro e w1 ⟨rfl, h1, hg1⟩; have hP1 := hP.grown hg1 (by omega); obtain ⟨p1, p2⟩ := hP1.q 0 (by omega))
        have hset := grown_set (R := w.heap.size + 2) (i := 0) (v := .int .i64 n) (grownR_refl w1 (some (w.heap.size + 2)))
        have h1' := h1.grown hset (fun k hk => by simp at hk; omega)
        have hP1' := hP1.set 0 (by omega) hqs n
        have hgr1 : w.grownBy w1 (some R) := grownR_trans hgr hg1
        have hgr1' : w.grownBy (w1.setCell ⟨w.heap.size + 2, 0, none⟩ (.int .i64 n)) (some R) := ⟨hgr1.os, hgr1.tape, hgr1.output, by simpa using hgr1.size, fun k hk hne => by rw [Below.heap_setCell w1 _ _ k (by show k ≠ w.heap.size + 2; omega)]; exact hgr1.block k hk hne⟩
        go_roundw
        case rel => exact ⟨1, r1, qs.set 0 n, by omega, by go_num, h1', hqs', hP1', hgr1', hz', hat'⟩
        case measure => simp [intOf]
      | false =>
        have hz0 := hz.out 0 (by omega)
        have hz' : Hid (∀ i, 1 ≤ i → qs.getD i 0 = 0) := fun i hi => hz.out i (by omega)
        have hat' : Hid (decParts 0 hs widL st = (qs.take 1 ++ (decParts 1 (hs.drop 1) (widL.drop 1) sk).1, (decParts 1 (hs.drop 1) (widL.drop 1) sk).2)) := by
          show _ = _
          rw [hat.out, EH.out, hb]
          simp only [widL, List.drop_succ_cons, List.drop_zero]
          rw [dec_false]
          obtain ⟨a0, a1, a2, a3, a4, a5, a6, a7, rfl⟩ := eight_list hqs
          have hz1 : a0 = 0 := hz0
          subst hz1
          rfl
        rw [hb] at b0
        clear hat hz hz0
        go_wp2
        go_roundw
        case rel => exact ⟨1, sk, qs, by omega, by go_num, hR, hqs, hP, hgr, hz', hat'⟩
        case measure => simp [intOf]
    · have hx := idxA1 1 1 4 3 3 1 1 1
      have b1 : wr.cell? ⟨w.heap.size, 1, none⟩ = some (.bool h1) := (hP.h 1 (by omega)).trans (by rw [EH.out]; rfl)
      cases hb : h1 with
      | true =>
        have hn := number_any R L sk 1 _ hR (by omega)
        obtain ⟨n, r1, en⟩ : ∃ n r1, sk.num 1 = (n, r1) := ⟨_, _, rfl⟩
        rw [en] at hn
        simp only at hn
        rw [hb] at b1
        have hqs' : (qs.set 1 n).length = 8 := by simp [hqs]
        have hz' : Hid (∀ i, 2 ≤ i → (qs.set 1 n).getD i 0 = 0) := by
          show ∀ i, 2 ≤ i → (qs.set 1 n).getD i 0 = 0
          intro i hi
          have := hz.out i (by omega)
          simpa [List.getD, show 1 ≠ i by omega] using this
        have htk : (qs.set 1 n).take 2 = qs.take 1 ++ [n] := by
          obtain ⟨a0, a1, a2, a3, a4, a5, a6, a7, rfl⟩ := eight_list hqs
          rfl
        have hat' : Hid (decParts 0 hs widL st = ((qs.set 1 n).take 2 ++ (decParts 2 (hs.drop 2) (widL.drop 2) r1).1, (decParts 2 (hs.drop 2) (widL.drop 2) r1).2)) := by
          show _ = _
          rw [hat.out, htk, EH.out, hb]
          simp only [widL, List.drop_succ_cons, List.drop_zero]
          rw [dec_true]
          simp only [RS.part, show (1 : Nat) ≠ 5 by decide, false_and, if_false, en]
          simp
        clear hat hz en htk
        go_wp2_with (go_at_call 48; refine hn.mono ?_; rintro e w1 ⟨rfl, h1, hg1⟩; have hP1 := hP.grown hg1 (by omega); obtain ⟨p1, p2⟩ := hP1.q 1 (by omega))
        have hset := grown_set (R := w.heap.size + 2) (i := 1) (v := .int .i64 n) (grownR_refl w1 (some (w.heap.size + 2)))
        have h1' := h1.grown hset (fun k hk => by simp at hk; omega)
        have hP1' := hP1.set 1 (by omega) hqs n
        have hgr1 : w.grownBy w1 (some R) := grownR_trans hgr hg1
        have hgr1' : w.grownBy (w1.setCell ⟨w.heap.size + 2, 1, none⟩ (.int .i64 n)) (some R) := ⟨hgr1.os, hgr1.tape, hgr1.output, by simpa using hgr1.size, fun k hk hne => by rw [Below.heap_setCell w1 _ _ k (by show k ≠ w.heap.size + 2; omega)]; exact hgr1.block k hk hne⟩
        go_roundw
        case rel => exact ⟨2, r1, qs.set 1 n, by omega, by go_num, h1', hqs', hP1', hgr1', hz', hat'⟩
        case measure => simp [intOf]
      | false =>
        have hz0 := hz.out 1 (by omega)
        have hz' : Hid (∀ i, 2 ≤ i → qs.getD i 0 = 0) := fun i hi => hz.out i (by omega)
        have hat' : Hid (decParts 0 hs widL st = (qs.take 2 ++ (decParts 2 (hs.drop 2) (widL.drop 2) sk).1, (decParts 2 (hs.drop 2) (widL.drop 2) sk).2)) := by
          show _ = _
          rw [hat.out, EH.out, hb]
          simp only [widL, List.drop_succ_cons, List.drop_zero]
          rw [dec_false]
          obtain ⟨a0, a1, a2, a3, a4, a5, a6, a7, rfl⟩ := eight_list hqs
          have hz1 : a1 = 0 := hz0
          subst hz1
          rfl
        rw [hb] at b1
        clear hat hz hz0
        go_wp2
        go_roundw
        case rel => exact ⟨2, sk, qs, by omega, by go_num, hR, hqs, hP, hgr, hz', hat'⟩
        case measure => simp [intOf]
    · have hx := idxA2 1 1 4 3 3 1 1 1
      have b2 : wr.cell? ⟨w.heap.size, 2, none⟩ = some (.bool h2) := (hP.h 2 (by omega)).trans (by rw [EH.out]; rfl)
      cases hb : h2 with
      | true =>
        have hn := number_any R L sk 4 _ hR (by omega)
        obtain ⟨n, r1, en⟩ : ∃ n r1, sk.num 4 = (n, r1) := ⟨_, _, rfl⟩
        rw [en] at hn
        simp only at hn
        rw [hb] at b2
        have hqs' : (qs.set 2 n).length = 8 := by simp [hqs]
        have hz' : Hid (∀ i, 3 ≤ i → (qs.set 2 n).getD i 0 = 0) := by
          show ∀ i, 3 ≤ i → (qs.set 2 n).getD i 0 = 0
          intro i hi
          have := hz.out i (by omega)
          simpa [List.getD, show 2 ≠ i by omega] using this
        have htk : (qs.set 2 n).take 3 = qs.take 2 ++ [n] := by
          obtain ⟨a0, a1, a2, a3, a4, a5, a6, a7, rfl⟩ := eight_list hqs
          rfl
        have hat' : Hid (decParts 0 hs widL st = ((qs.set 2 n).take 3 ++ (decParts 3 (hs.drop 3) (widL.drop 3) r1).1, (decParts 3 (hs.drop 3) (widL.drop 3) r1).2)) := by
          show _ = _
          rw [hat.out, htk, EH.out, hb]
          simp only [widL, List.drop_succ_cons, List.drop_zero]
          rw [dec_true]
          simp only [RS.part, show (2 : Nat) ≠ 5 by decide, false_and, if_false, en]
          simp
        clear hat hz en htk
        go_wp2_with (go_at_call 48; refine hn.mono ?_; rintro e w1 ⟨rfl, h1, hg1⟩; have hP1 := hP.grown hg1 (by omega); obtain ⟨p1, p2⟩ := hP1.q 2 (by omega))
        have hset := grown_set (R := w.heap.size + 2) (i := 2) (v := .int .i64 n) (grownR_refl w1 (some (w.heap.size + 2)))
        have h1' := h1.grown hset (fun k hk => by simp at hk; omega)
        have hP1' := hP1.set 2 (by omega) hqs n
        have hgr1 : w.grownBy w1 (some R) := grownR_trans hgr hg1
        have hgr1' : w.grownBy (w1.setCell ⟨w.heap.size + 2, 2, none⟩ (.int .i64 n)) (some R) := ⟨hgr1.os, hgr1.tape, hgr1.output, by simpa using hgr1.size, fun k hk hne => by rw [Below.heap_setCell w1 _ _ k (by show k ≠ w.heap.size + 2; omega)]; exact hgr1.block k hk hne⟩
        go_roundw
        case rel => exact ⟨3, r1, qs.set 2 n, by omega, by go_num, h1', hqs', hP1', hgr1', hz', hat'⟩
        case measure => simp [intOf]
      | false =>
        have hz0 := hz.out 2 (by omega)
        have hz' : Hid (∀ i, 3 ≤ i → qs.getD i 0 = 0) := fun i hi => hz.out i (by omega)
        have hat' : Hid (decParts 0 hs widL st = (qs.take 3 ++ (decParts 3 (hs.drop 3) (widL.drop 3) sk).1, (decParts 3 (hs.drop 3) (widL.drop 3) sk).2)) := by
          show _ = _
          rw [hat.out, EH.out, hb]
          simp only [widL, List.drop_succ_cons, List.drop_zero]
          rw [dec_false]
          obtain ⟨a0, a1, a2, a3, a4, a5, a6, a7, rfl⟩ := eight_list hqs
          have hz1 : a2 = 0 := hz0
          subst hz1
          rfl
        rw [hb] at b2
        clear hat hz hz0
        go_wp2
        go_roundw
        case rel => exact ⟨3, sk, qs, by omega, by go_num, hR, hqs, hP, hgr, hz', hat'⟩
        case measure => simp [intOf]
    · have hx := idxA3 1 1 4 3 3 1 1 1
      have b3 : wr.cell? ⟨w.heap.size, 3, none⟩ = some (.bool h3) := (hP.h 3 (by omega)).trans (by rw [EH.out]; rfl)
      cases hb : h3 with
      | true =>
        have hn := number_any R L sk 3 _ hR (by omega)
        obtain ⟨n, r1, en⟩ : ∃ n r1, sk.num 3 = (n, r1) := ⟨_, _, rfl⟩
        rw [en] at hn
        simp only at hn
        rw [hb] at b3
        have hqs' : (qs.set 3 n).length = 8 := by simp [hqs]
        have hz' : Hid (∀ i, 4 ≤ i → (qs.set 3 n).getD i 0 = 0) := by
          show ∀ i, 4 ≤ i → (qs.set 3 n).getD i 0 = 0
          intro i hi
          have := hz.out i (by omega)
          simpa [List.getD, show 3 ≠ i by omega] using this
        have htk : (qs.set 3 n).take 4 = qs.take 3 ++ [n] := by
          obtain ⟨a0, a1, a2, a3, a4, a5, a6, a7, rfl⟩ := eight_list hqs
          rfl
        have hat' : Hid (decParts 0 hs widL st = ((qs.set 3 n).take 4 ++ (decParts 4 (hs.drop 4) (widL.drop 4) r1).1, (decParts 4 (hs.drop 4) (widL.drop 4) r1).2)) := by
          show _ = _
          rw [hat.out, htk, EH.out, hb]
          simp only [widL, List.drop_succ_cons, List.drop_zero]
          rw [dec_true]
          simp only [RS.part, show (3 : Nat) ≠ 5 by decide, false_and, if_false, en]
          simp
        clear hat hz en htk
        go_wp2_with (go_at_call 48; refine hn.mono ?_; rintro e w1 ⟨rfl, h1, hg1⟩; have hP1 := hP.grown hg1 (by omega); obtain ⟨p1, p2⟩ := hP1.q 3 (by omega))
        have hset := grown_set (R := w.heap.size + 2) (i := 3) (v := .int .i64 n) (grownR_refl w1 (some (w.heap.size + 2)))
        have h1' := h1.grown hset (fun k hk => by simp at hk; omega)
        have hP1' := hP1.set 3 (by omega) hqs n
        have hgr1 : w.grownBy w1 (some R) := grownR_trans hgr hg1
        have hgr1' : w.grownBy (w1.setCell ⟨w.heap.size + 2, 3, none⟩ (.int .i64 n)) (some R) := ⟨hgr1.os, hgr1.tape, hgr1.output, by simpa using hgr1.size, fun k hk hne => by rw [Below.heap_setCell w1 _ _ k (by show k ≠ w.heap.size + 2; omega)]; exact hgr1.block k hk hne⟩
        go_roundw
        case rel => exact ⟨4, r1, qs.set 3 n, by omega, by go_num, h1', hqs', hP1', hgr1', hz', hat'⟩
        case measure => simp [intOf]
      | false =>
        have hz0 := hz.out 3 (by omega)
        have hz' : Hid (∀ i, 4 ≤ i → qs.getD i 0 = 0) := fun i hi => hz.out i (by omega)
        have hat' : Hid (decParts 0 hs widL st = (qs.take 4 ++ (decParts 4 (hs.drop 4) (widL.drop 4) sk).1, (decParts 4 (hs.drop 4) (widL.drop 4) sk).2)) := by
          show _ = _
          rw [hat.out, EH.out, hb]
          simp only [widL, List.drop_succ_cons, List.drop_zero]
          rw [dec_false]
          obtain ⟨a0, a1, a2, a3, a4, a5, a6, a7, rfl⟩ := eight_list hqs
          have hz1 : a3 = 0 := hz0
          subst hz1
          rfl
        rw [hb] at b3
        clear hat hz hz0
        go_wp2
        go_roundw
        case rel => exact ⟨4, sk, qs, by omega, by go_num, hR, hqs, hP, hgr, hz', hat'⟩
        case measure => simp [intOf]
    · have hx := idxA4 1 1 4 3 3 1 1 1
      have b4 : wr.cell? ⟨w.heap.size, 4, none⟩ = some (.bool h4) := (hP.h 4 (by omega)).trans (by rw [EH.out]; rfl)
      cases hb : h4 with
      | true =>
        have hn := number_any R L sk 3 _ hR (by omega)
        obtain ⟨n, r1, en⟩ : ∃ n r1, sk.num 3 = (n, r1) := ⟨_, _, rfl⟩
        rw [en] at hn
        simp only at hn
        rw [hb] at b4
        have hqs' : (qs.set 4 n).length = 8 := by simp [hqs]
        have hz' : Hid (∀ i, 5 ≤ i → (qs.set 4 n).getD i 0 = 0) := by
          show ∀ i, 5 ≤ i → (qs.set 4 n).getD i 0 = 0
          intro i hi
          have := hz.out i (by omega)
          simpa [List.getD, show 4 ≠ i by omega] using this
        have htk : (qs.set 4 n).take 5 = qs.take 4 ++ [n] := by
          obtain ⟨a0, a1, a2, a3, a4, a5, a6, a7, rfl⟩ := eight_list hqs
          rfl
        have hat' : Hid (decParts 0 hs widL st = ((qs.set 4 n).take 5 ++ (decParts 5 (hs.drop 5) (widL.drop 5) r1).1, (decParts 5 (hs.drop 5) (widL.drop 5) r1).2)) := by
          show _ = _
          rw [hat.out, htk, EH.out, hb]
          simp only [widL, List.drop_succ_cons, List.drop_zero]
          rw [dec_true]
          simp only [RS.part, show (4 : Nat) ≠ 5 by decide, false_and, if_false, en]
          simp
        clear hat hz en htk
        go_wp2_with (go_at_call 48; refine hn.mono ?_; rintro e w1 ⟨rfl, h1, hg1⟩; have hP1 := hP.grown hg1 (by omega); obtain ⟨p1, p2⟩ := hP1.q 4 (by omega))
        have hset := grown_set (R := w.heap.size + 2) (i := 4) (v := .int .i64 n) (grownR_refl w1 (some (w.heap.size + 2)))
        have h1' := h1.grown hset (fun k hk => by simp at hk; omega)
        have hP1' := hP1.set 4 (by omega) hqs n
        have hgr1 : w.grownBy w1 (some R) := grownR_trans hgr hg1
        have hgr1' : w.grownBy (w1.setCell ⟨w.heap.size + 2, 4, none⟩ (.int .i64 n)) (some R) := ⟨hgr1.os, hgr1.tape, hgr1.output, by simpa using hgr1.size, fun k hk hne => by rw [Below.heap_setCell w1 _ _ k (by show k ≠ w.heap.size + 2; omega)]; exact hgr1.block k hk hne⟩
        go_roundw
        case rel => exact ⟨5, r1, qs.set 4 n, by omega, by go_num, h1', hqs', hP1', hgr1', hz', hat'⟩
        case measure => simp [intOf]
      | false =>
        have hz0 := hz.out 4 (by omega)
        have hz' : Hid (∀ i, 5 ≤ i → qs.getD i 0 = 0) := fun i hi => hz.out i (by omega)
        have hat' : Hid (decParts 0 hs widL st = (qs.take 5 ++ (decParts 5 (hs.drop 5) (widL.drop 5) sk).1, (decParts 5 (hs.drop 5) (widL.drop 5) sk).2)) := by
          show _ = _
          rw [hat.out, EH.out, hb]
          simp only [widL, List.drop_succ_cons, List.drop_zero]
          rw [dec_false]
          obtain ⟨a0, a1, a2, a3, a4, a5, a6, a7, rfl⟩ := eight_list hqs
          have hz1 : a4 = 0 := hz0
          subst hz1
          rfl
        rw [hb] at b4
        clear hat hz hz0
        go_wp2
        go_roundw
        case rel => exact ⟨5, sk, qs, by omega, by go_num, hR, hqs, hP, hgr, hz', hat'⟩
        case measure => simp [intOf]
    · have hx := idxA5 1 1 4 3 3 1 1 1
      have b5 : wr.cell? ⟨w.heap.size, 5, none⟩ = some (.bool h5) := (hP.h 5 (by omega)).trans (by rw [EH.out]; rfl)
      cases hb : h5 with
      | true =>
        have hn := number_any R L sk 1 _ hR (by omega)
        obtain ⟨n, r1, en⟩ : ∃ n r1, sk.num 1 = (n, r1) := ⟨_, _, rfl⟩
        rw [en] at hn
        simp only at hn
        rw [hb] at b5
        have hqs' : (qs.set 5 n).length = 8 := by simp [hqs]
        have hz' : Hid (∀ i, 6 ≤ i → (qs.set 5 n).getD i 0 = 0) := by
          show ∀ i, 6 ≤ i → (qs.set 5 n).getD i 0 = 0
          intro i hi
          have := hz.out i (by omega)
          simpa [List.getD, show 5 ≠ i by omega] using this
        have htk : (qs.set 5 n).take 6 = qs.take 5 ++ [n] := by
          obtain ⟨a0, a1, a2, a3, a4, a5, a6, a7, rfl⟩ := eight_list hqs
          rfl
        by_cases hn1 : 1 < n
        · have hat' : Hid (decParts 0 hs widL st = ((qs.set 5 n).take 6 ++ (decParts 6 (hs.drop 6) (widL.drop 6) (r1.refuse 4)).1, (decParts 6 (hs.drop 6) (widL.drop 6) (r1.refuse 4)).2)) := by
            show _ = _
            rw [hat.out, htk, EH.out, hb]
            simp only [widL, List.drop_succ_cons, List.drop_zero]
            rw [dec_true]
            simp only [RS.part, en, true_and, if_pos hn1]
            simp
          have hrf := fun w' hh => refuse_any R L r1 4 w' hh (by omega)
          clear hat hz en htk
          go_wp2_with (first
            | (go_at_call 48; refine hn.mono ?_; rintro e w1 ⟨rfl, h1, hg1⟩; have hP1 := hP.grown hg1 (by omega); obtain ⟨p1, p2⟩ := hP1.q 5 (by omega); have hset := grown_set (R := w.heap.size + 2) (i := 5) (v := .int .i64 n) (grownR_refl w1 (some (w.heap.size + 2))); have h1' := h1.grown hset (fun k hk => by simp at hk; omega))
            | (go_at_call 51; refine (hrf _ h1').mono ?_; rintro e w2 ⟨rfl, h2, hg2⟩))
          have hP1' := (hP1.set 5 (by omega) hqs n).grown hg2 (by omega)
          have hgr1 : w.grownBy w1 (some R) := grownR_trans hgr hg1
          have hgr1' : w.grownBy (w1.setCell ⟨w.heap.size + 2, 5, none⟩ (.int .i64 n)) (some R) := ⟨hgr1.os, hgr1.tape, hgr1.output, by simpa using hgr1.size, fun k hk hne => by rw [Below.heap_setCell w1 _ _ k (by show k ≠ w.heap.size + 2; omega)]; exact hgr1.block k hk hne⟩
          go_roundw
          case rel => exact ⟨6, r1.refuse 4, qs.set 5 n, by omega, by go_num, h2, hqs', hP1', grownR_trans hgr1' hg2, hz', hat'⟩
          case measure => simp [intOf]
        · have hat' : Hid (decParts 0 hs widL st = ((qs.set 5 n).take 6 ++ (decParts 6 (hs.drop 6) (widL.drop 6) r1).1, (decParts 6 (hs.drop 6) (widL.drop 6) r1).2)) := by
            show _ = _
            rw [hat.out, htk, EH.out, hb]
            simp only [widL, List.drop_succ_cons, List.drop_zero]
            rw [dec_true]
            simp only [RS.part, en, true_and, if_neg hn1]
            simp
          clear hat hz en htk
          go_wp2_with (go_at_call 48; refine hn.mono ?_; rintro e w1 ⟨rfl, h1, hg1⟩; have hP1 := hP.grown hg1 (by omega); obtain ⟨p1, p2⟩ := hP1.q 5 (by omega))
          have hset := grown_set (R := w.heap.size + 2) (i := 5) (v := .int .i64 n) (grownR_refl w1 (some (w.heap.size + 2)))
          have h1' := h1.grown hset (fun k hk => by simp at hk; omega)
          have hP1' := hP1.set 5 (by omega) hqs n
          have hgr1 : w.grownBy w1 (some R) := grownR_trans hgr hg1
          have hgr1' : w.grownBy (w1.setCell ⟨w.heap.size + 2, 5, none⟩ (.int .i64 n)) (some R) := ⟨hgr1.os, hgr1.tape, hgr1.output, by simpa using hgr1.size, fun k hk hne => by rw [Below.heap_setCell w1 _ _ k (by show k ≠ w.heap.size + 2; omega)]; exact hgr1.block k hk hne⟩
          go_roundw
          case rel => exact ⟨6, r1, qs.set 5 n, by omega, by go_num, h1', hqs', hP1', hgr1', hz', hat'⟩
          case measure => simp [intOf]
      | false =>
        have hz0 := hz.out 5 (by omega)
        have hz' : Hid (∀ i, 6 ≤ i → qs.getD i 0 = 0) := fun i hi => hz.out i (by omega)
        have hat' : Hid (decParts 0 hs widL st = (qs.take 6 ++ (decParts 6 (hs.drop 6) (widL.drop 6) sk).1, (decParts 6 (hs.drop 6) (widL.drop 6) sk).2)) := by
          show _ = _
          rw [hat.out, EH.out, hb]
          simp only [widL, List.drop_succ_cons, List.drop_zero]
          rw [dec_false]
          obtain ⟨a0, a1, a2, a3, a4, a5, a6, a7, rfl⟩ := eight_list hqs
          have hz1 : a5 = 0 := hz0
          subst hz1
          rfl
        rw [hb] at b5
        clear hat hz hz0
        go_wp2
        go_roundw
        case rel => exact ⟨6, sk, qs, by omega, by go_num, hR, hqs, hP, hgr, hz', hat'⟩
        case measure => simp [intOf]
    · have hx := idxA6 1 1 4 3 3 1 1 1
      have b6 : wr.cell? ⟨w.heap.size, 6, none⟩ = some (.bool h6) := (hP.h 6 (by omega)).trans (by rw [EH.out]; rfl)
      cases hb : h6 with
      | true =>
        have hn := number_any R L sk 1 _ hR (by omega)
        obtain ⟨n, r1, en⟩ : ∃ n r1, sk.num 1 = (n, r1) := ⟨_, _, rfl⟩
        rw [en] at hn
        simp only at hn
        rw [hb] at b6
        have hqs' : (qs.set 6 n).length = 8 := by simp [hqs]
        have hz' : Hid (∀ i, 7 ≤ i → (qs.set 6 n).getD i 0 = 0) := by
          show ∀ i, 7 ≤ i → (qs.set 6 n).getD i 0 = 0
          intro i hi
          have := hz.out i (by omega)
          simpa [List.getD, show 6 ≠ i by omega] using this
        have htk : (qs.set 6 n).take 7 = qs.take 6 ++ [n] := by
          obtain ⟨a0, a1, a2, a3, a4, a5, a6, a7, rfl⟩ := eight_list hqs
          rfl
        have hat' : Hid (decParts 0 hs widL st = ((qs.set 6 n).take 7 ++ (decParts 7 (hs.drop 7) (widL.drop 7) r1).1, (decParts 7 (hs.drop 7) (widL.drop 7) r1).2)) := by
          show _ = _
          rw [hat.out, htk, EH.out, hb]
          simp only [widL, List.drop_succ_cons, List.drop_zero]
          rw [dec_true]
          simp only [RS.part, show (6 : Nat) ≠ 5 by decide, false_and, if_false, en]
          simp
        clear hat hz en htk
        go_wp2_with (go_at_call 48; refine hn.mono ?_; rintro e w1 ⟨rfl, h1, hg1⟩; have hP1 := hP.grown hg1 (by omega); obtain ⟨p1, p2⟩ := hP1.q 6 (by omega))
        have hset := grown_set (R := w.heap.size + 2) (i := 6) (v := .int .i64 n) (grownR_refl w1 (some (w.heap.size + 2)))
        have h1' := h1.grown hset (fun k hk => by simp at hk; omega)
        have hP1' := hP1.set 6 (by omega) hqs n
        have hgr1 : w.grownBy w1 (some R) := grownR_trans hgr hg1
        have hgr1' : w.grownBy (w1.setCell ⟨w.heap.size + 2, 6, none⟩ (.int .i64 n)) (some R) := ⟨hgr1.os, hgr1.tape, hgr1.output, by simpa using hgr1.size, fun k hk hne => by rw [Below.heap_setCell w1 _ _ k (by show k ≠ w.heap.size + 2; omega)]; exact hgr1.block k hk hne⟩
        go_roundw
        case rel => exact ⟨7, r1, qs.set 6 n, by omega, by go_num, h1', hqs', hP1', hgr1', hz', hat'⟩
        case measure => simp [intOf]
      | false =>
        have hz0 := hz.out 6 (by omega)
        have hz' : Hid (∀ i, 7 ≤ i → qs.getD i 0 = 0) := fun i hi => hz.out i (by omega)
        have hat' : Hid (decParts 0 hs widL st = (qs.take 7 ++ (decParts 7 (hs.drop 7) (widL.drop 7) sk).1, (decParts 7 (hs.drop 7) (widL.drop 7) sk).2)) := by
          show _ = _
          rw [hat.out, EH.out, hb]
          simp only [widL, List.drop_succ_cons, List.drop_zero]
          rw [dec_false]
          obtain ⟨a0, a1, a2, a3, a4, a5, a6, a7, rfl⟩ := eight_list hqs
          have hz1 : a6 = 0 := hz0
          subst hz1
          rfl
        rw [hb] at b6
        clear hat hz hz0
        go_wp2
        go_roundw
        case rel => exact ⟨7, sk, qs, by omega, by go_num, hR, hqs, hP, hgr, hz', hat'⟩
        case measure => simp [intOf]
    · have hx := idxA7 1 1 4 3 3 1 1 1
      have b7 : wr.cell? ⟨w.heap.size, 7, none⟩ = some (.bool h7) := (hP.h 7 (by omega)).trans (by rw [EH.out]; rfl)
      cases hb : h7 with
      | true =>
        have hn := number_any R L sk 1 _ hR (by omega)
        obtain ⟨n, r1, en⟩ : ∃ n r1, sk.num 1 = (n, r1) := ⟨_, _, rfl⟩
        rw [en] at hn
        simp only at hn
        rw [hb] at b7
        have hqs' : (qs.set 7 n).length = 8 := by simp [hqs]
        have hz' : Hid (∀ i, 8 ≤ i → (qs.set 7 n).getD i 0 = 0) := by
          show ∀ i, 8 ≤ i → (qs.set 7 n).getD i 0 = 0
          intro i hi
          have := hz.out i (by omega)
          simpa [List.getD, show 7 ≠ i by omega] using this
        have htk : (qs.set 7 n).take 8 = qs.take 7 ++ [n] := by
          obtain ⟨a0, a1, a2, a3, a4, a5, a6, a7, rfl⟩ := eight_list hqs
          rfl
        have hat' : Hid (decParts 0 hs widL st = ((qs.set 7 n).take 8 ++ (decParts 8 (hs.drop 8) (widL.drop 8) r1).1, (decParts 8 (hs.drop 8) (widL.drop 8) r1).2)) := by
          show _ = _
          rw [hat.out, htk, EH.out, hb]
          simp only [widL, List.drop_succ_cons, List.drop_zero]
          rw [dec_true]
          simp only [RS.part, show (7 : Nat) ≠ 5 by decide, false_and, if_false, en]
          simp
        clear hat hz en htk
        go_wp2_with (go_at_call 48; refine hn.mono ?_; rintro e w1 ⟨rfl, h1, hg1⟩; have hP1 := hP.grown hg1 (by omega); obtain ⟨p1, p2⟩ := hP1.q 7 (by omega))
        have hset := grown_set (R := w.heap.size + 2) (i := 7) (v := .int .i64 n) (grownR_refl w1 (some (w.heap.size + 2)))
        have h1' := h1.grown hset (fun k hk => by simp at hk; omega)
        have hP1' := hP1.set 7 (by omega) hqs n
        have hgr1 : w.grownBy w1 (some R) := grownR_trans hgr hg1
        have hgr1' : w.grownBy (w1.setCell ⟨w.heap.size + 2, 7, none⟩ (.int .i64 n)) (some R) := ⟨hgr1.os, hgr1.tape, hgr1.output, by simpa using hgr1.size, fun k hk hne => by rw [Below.heap_setCell w1 _ _ k (by show k ≠ w.heap.size + 2; omega)]; exact hgr1.block k hk hne⟩
        go_roundw
        case rel => exact ⟨8, r1, qs.set 7 n, by omega, by go_num, h1', hqs', hP1', hgr1', hz', hat'⟩
        case measure => simp [intOf]
      | false =>
        have hz0 := hz.out 7 (by omega)
        have hz' : Hid (∀ i, 8 ≤ i → qs.getD i 0 = 0) := fun i hi => hz.out i (by omega)
        have hat' : Hid (decParts 0 hs widL st = (qs.take 8 ++ (decParts 8 (hs.drop 8) (widL.drop 8) sk).1, (decParts 8 (hs.drop 8) (widL.drop 8) sk).2)) := by
          show _ = _
          rw [hat.out, EH.out, hb]
          simp only [widL, List.drop_succ_cons, List.drop_zero]
          rw [dec_false]
          obtain ⟨a0, a1, a2, a3, a4, a5, a6, a7, rfl⟩ := eight_list hqs
          have hz1 : a7 = 0 := hz0
          subst hz1
          rfl
        rw [hb] at b7
        clear hat hz hz0
        go_wp2
        go_roundw
        case rel => exact ⟨8, sk, qs, by omega, by go_num, hR, hqs, hP, hgr, hz', hat'⟩
        case measure => simp [intOf]
    · obtain ⟨q0, q1, q2, q3, q4, q5, q6, q7, rfl⟩ := eight_list hqs
      obtain ⟨e0, _⟩ := hP.q 0 (by omega)
      obtain ⟨r0, g0⟩ := hP.r 0 (by omega)
      obtain ⟨e1, _⟩ := hP.q 1 (by omega)
      obtain ⟨r1, g1⟩ := hP.r 1 (by omega)
      obtain ⟨e2, _⟩ := hP.q 2 (by omega)
      obtain ⟨r2, g2⟩ := hP.r 2 (by omega)
      obtain ⟨e3, _⟩ := hP.q 3 (by omega)
      obtain ⟨r3, g3⟩ := hP.r 3 (by omega)
      obtain ⟨e4, _⟩ := hP.q 4 (by omega)
      obtain ⟨r4, g4⟩ := hP.r 4 (by omega)
      obtain ⟨e5, _⟩ := hP.q 5 (by omega)
      obtain ⟨r5, g5⟩ := hP.r 5 (by omega)
      obtain ⟨e6, _⟩ := hP.q 6 (by omega)
      obtain ⟨r6, g6⟩ := hP.r 6 (by omega)
      obtain ⟨e7, _⟩ := hP.q 7 (by omega)
      obtain ⟨r7, g7⟩ := hP.r 7 (by omega)
      simp only [List.getD_cons_succ, List.getD_cons_zero] at e0 e1 e2 e3 e4 e5 e6 e7
      have HF : Hid (decParts 0 hs widL st = ([q0, q1, q2, q3, q4, q5, q6, q7], sk)) := by show _ = _; rw [hat.out, EH.out]; simp [widL, decParts]
      clear hat hz
      go_wp2
      have hset : wr.grownBy _ (some (w.heap.size + 1)) := grown_set (i := 7) (v := .int .i64 q7) (grown_set (i := 6) (v := .int .i64 q6) (grown_set (i := 5) (v := .int .i64 q5) (grown_set (i := 4) (v := .int .i64 q4) (grown_set (i := 3) (v := .int .i64 q3) (grown_set (i := 2) (v := .int .i64 q2) (grown_set (i := 1) (v := .int .i64 q1) (grown_set (i := 0) (v := .int .i64 q0) (grownR_refl wr (some (w.heap.size + 1))))))))))
      refine bodyPost_ret (v := .agg #[.int .i64 q0, .int .i64 q1, .int .i64 q2, .int .i64 q3, .int .i64 q4, .int .i64 q5, .int .i64 q6, .int .i64 q7]) (by simp [results, Tryd.results50, go_sem, r0, r1, r2, r3, r4, r5, r6, r7]) rfl ⟨_, rfl, q0, q1, q2, q3, q4, q5, q6, q7, rfl, by rw [HF.out], by rw [HF.out]; exact hR.grown hset (fun k hk => by simp at hk; omega), ?_⟩
      exact ⟨hset.os.trans hgr.os, hset.tape.trans hgr.tape, hset.output.trans hgr.output, Nat.le_trans hgr.size hset.size, fun k hk hne => (hset.block k (by have := hgr.size; omega) (by simp; omega)).trans (hgr.block k hk hne)⟩
end Go.Proofs.YtflfcjbgkpfgkaaDoor
/- A message off bytes, on plain data. -/
namespace Go.Proofs.YtflfcjbgkpfgkaaDoor
open Go.ChangeShapes Go.WideShapes Go.ChangeAt Go.RowKit

/-- A message off bytes: what readMessage gives, and what the reader is then. -/
def decMsgRS (r : RS) : MV × RS :=
  (⟨(r.kind 10).1, ((r.kind 10).2.num 1).1, (((r.kind 10).2.num 1).2.num 1).1, ((((r.kind 10).2.num 1).2.num 1).2.num 1).1, (((((r.kind 10).2.num 1).2.num 1).2.num 1).2.num 3).1,
    (decParts 0 (mHasOf (r.kind 10).1) widL (((((r.kind 10).2.num 1).2.num 1).2.num 1).2.num 3).2).1.getD 0 0,
    (decParts 0 (mHasOf (r.kind 10).1) widL (((((r.kind 10).2.num 1).2.num 1).2.num 1).2.num 3).2).1.getD 1 0,
    (decParts 0 (mHasOf (r.kind 10).1) widL (((((r.kind 10).2.num 1).2.num 1).2.num 1).2.num 3).2).1.getD 2 0,
    (decParts 0 (mHasOf (r.kind 10).1) widL (((((r.kind 10).2.num 1).2.num 1).2.num 1).2.num 3).2).1.getD 3 0,
    (decParts 0 (mHasOf (r.kind 10).1) widL (((((r.kind 10).2.num 1).2.num 1).2.num 1).2.num 3).2).1.getD 4 0,
    decide ((decParts 0 (mHasOf (r.kind 10).1) widL (((((r.kind 10).2.num 1).2.num 1).2.num 1).2.num 3).2).1.getD 5 0 = 1),
    (decParts 0 (mHasOf (r.kind 10).1) widL (((((r.kind 10).2.num 1).2.num 1).2.num 1).2.num 3).2).1.getD 6 0⟩,
   (decParts 0 (mHasOf (r.kind 10).1) widL (((((r.kind 10).2.num 1).2.num 1).2.num 1).2.num 3).2).2)

end Go.Proofs.YtflfcjbgkpfgkaaDoor
