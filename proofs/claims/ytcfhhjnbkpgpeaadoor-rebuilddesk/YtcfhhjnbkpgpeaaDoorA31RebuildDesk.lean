/- The contract of the raw Config: sites, labels each once, patience; what was in memory stays, and the labels lie in new memory. -/
import Derived.Test.YtcfhhjnbkpgpeaaDoorA30RebuildDesk
import Derived.Test.YtcfhhjnbkpgpeaaDoorA25RebuildDesk
import Derived.LoopTactic
import Derived.WalkSmall
namespace Go.Proofs.YtcfhhjnbkpgpeaaDoor
open Go.ChangeShapes Go.WideShapes Go.ChangeAt Go.RowKit
set_option linter.unusedVariables false

/-- The config that is being made: its cells, the result's block, the labels' row; below B all is as it was. -/
structure CfgAt (B : Nat) (w wr : World) (S P : Int) (ao : Option Addr) (cp : Nat) (ls : List (Int × Int)) : Prop where
  c0 : wr.cell? ⟨B + 1, 0, none⟩ = some (.int .i64 S)
  c1 : wr.cell? ⟨B + 1, 1, none⟩ = some (.slice ao ls.length cp)
  c2 : wr.cell? ⟨B + 1, 2, none⟩ = some (.int .i64 P)
  f1 : wr.frozen? ⟨B + 1, 1, none⟩ = false
  blk : wr.heap[B]? = some (.cells #[.int .i64 0, .slice none 0 0, .int .i64 0] 24 (0, 0))
  lt : B + 1 < wr.heap.size
  own : wr.ownsRow (B + 2) 54 2 (.slice ao ls.length cp) ls.length (flat ls)
  below : Below B w wr

theorem CfgAt.mono {B : Nat} {w wr wr' : World} {S P : Int} {ao : Option Addr} {cp : Nat} {ls : List (Int × Int)} (h : CfgAt B w wr S P ao cp ls) (hb : Below wr.heap.size wr wr') : CfgAt B w wr' S P ao cp ls := by
  have hl := h.lt
  refine ⟨?_, ?_, ?_, ?_, ?_, Nat.lt_of_lt_of_le hl hb.size, own_below h.own hb, h.below.trans (hb.mono (by omega))⟩
  · rw [hb.cell (p := ⟨B + 1, 0, none⟩) hl]; exact h.c0
  · rw [hb.cell (p := ⟨B + 1, 1, none⟩) hl]; exact h.c1
  · rw [hb.cell (p := ⟨B + 1, 2, none⟩) hl]; exact h.c2
  · rw [hb.frozen (p := ⟨B + 1, 1, none⟩) hl]; exact h.f1
  · rw [hb.block B (by omega)]; exact h.blk

theorem labInfo : (Tryd.prog.info? 54).map (fun i => (i.zero, i.size, i.bytes)) = some (some (.agg #[.int .i64 0, .int .i64 0]), 2, 16) := by kernel_rfl

theorem cfgAt_start (w : World) (S P : Int) : CfgAt w.heap.size w ((w.alloc (.cells #[.int .i64 0, .slice none 0 0, .int .i64 0] 24)).alloc (.cells #[.int .i64 S, .slice none 0 0, .int .i64 P] 24)) S P none 0 [] := by
  refine ⟨by go_simp, by go_simp, by go_simp, by go_simp, ?_, by simp, World.ownsRow_nil _ _ _ _, ((Below.refl _ _).alloc (Nat.le_refl _) _).alloc (by simp) _⟩
  show ((w.heap.push _).push _)[w.heap.size]? = _
  simp only [Array.getElem?_push, Array.size_push]
  rw [if_neg (by omega), if_pos trivial]

theorem CfgAt.labs {B : Nat} {w wr : World} {S P : Int} {ao : Option Addr} {cp : Nat} {ls : List (Int × Int)} (h : CfgAt B w wr S P ao cp ls) (hp : 0 < ls.length) : ∃ g, ao = some ⟨g, 0, none⟩ ∧ B + 2 ≤ g ∧ Labs wr g 0 ls := by
  have ho := h.own
  rcases ho.2 with ⟨_, hn⟩ | ⟨g, cap, cur, hv, hb, _⟩
  · omega
  · simp at hv
    obtain ⟨rfl, rfl⟩ := hv
    exact ⟨g, rfl, hb, labs_of_own ho⟩

theorem CfgAt.room {B : Nat} {w wr : World} {S P : Int} {ao : Option Addr} {cp : Nat} {ls : List (Int × Int)} (h : CfgAt B w wr S P ao cp ls) : ls.length ≤ cp ∧ cp ≤ maxLen := by
  have ho := h.own
  rcases ho.2 with ⟨hv, hn⟩ | ⟨g, cap, cur, hv, hb, _, h1, h2, _⟩
  · simp at hv
    rw [hv.2.2]
    exact ⟨by omega, by unfold maxLen; omega⟩
  · simp at hv
    obtain ⟨rfl, rfl⟩ := hv
    exact ⟨h1, h2⟩

/-- A label more: behind the append and the store. -/
theorem CfgAt.push {B : Nat} {w wr w2 : World} {S P : Int} {ao : Option Addr} {cp g cp' : Nat} {ls : List (Int × Int)} {x y : Int} (h : CfgAt B w wr S P ao cp ls)
    (hown : w2.ownsRow (B + 2) 54 2 (.slice (some ⟨g, 0, none⟩) (ls.length + 1) cp') (ls.length + 1) (flat ls ++ [.int .i64 x, .int .i64 y]))
    (hg : wr.grownBy w2 (Value.slice ao ls.length cp).ownBlock) :
    CfgAt B w (w2.setCell ⟨B + 1, 1, none⟩ (.slice (some ⟨g, 0, none⟩) (ls.length + 1) cp')) S P (some ⟨g, 0, none⟩) cp' (ls ++ [(x, y)]) := by
  have hl := h.lt
  have hne : ∀ k, k < B + 2 → some k ≠ (Value.slice ao ls.length cp).ownBlock := by
    intro k hk e
    have := (h.own.lt k e.symm).1
    omega
  have hb1 := hg.block (B + 1) hl (hne _ (by omega))
  have hb0 := hg.block B (by omega) (hne _ (by omega))
  have k0 : w2.cell? ⟨B + 1, 0, none⟩ = some (.int .i64 S) := by rw [World.cell?_of_block (a := ⟨B + 1, 0, none⟩) hb1]; exact h.c0
  have k1 : w2.cell? ⟨B + 1, 1, none⟩ = some (.slice ao ls.length cp) := by rw [World.cell?_of_block (a := ⟨B + 1, 1, none⟩) hb1]; exact h.c1
  have k2 : w2.cell? ⟨B + 1, 2, none⟩ = some (.int .i64 P) := by rw [World.cell?_of_block (a := ⟨B + 1, 2, none⟩) hb1]; exact h.c2
  have kf : w2.frozen? ⟨B + 1, 1, none⟩ = false := by rw [World.frozen?_of_block (a := ⟨B + 1, 1, none⟩) hb1]; exact h.f1
  refine ⟨?_, ?_, ?_, ?_, ?_, ?_, ?_, ?_⟩
  · go_simp
  · simp only [List.length_append, List.length_singleton]
    go_simp
  · go_simp
  · go_simp
  · rw [Below.heap_setCell _ _ _ _ (by simp), hb0]; exact h.blk
  · have := hg.size
    simp
    omega
  · have := ownsRow_setCell_below hown (a := ⟨B + 1, 1, none⟩) (by simp) (.slice (some ⟨g, 0, none⟩) (ls.length + 1) cp')
    rw [flat_append]
    simpa using this
  · refine Below.setCell (h.below.grown hg (by omega) (fun k hk => ?_)) (by simp) _
    have := (h.own.lt k hk).1
    omega

theorem CfgAt.after {B : Nat} {w wr w2 : World} {S P : Int} {ao : Option Addr} {cp : Nat} {ls : List (Int × Int)} (h : CfgAt B w wr S P ao cp ls)
    (hg : wr.grownBy w2 (Value.slice ao ls.length cp).ownBlock) : w2.cell? ⟨B + 1, 1, none⟩ = some (.slice ao ls.length cp) ∧ w2.frozen? ⟨B + 1, 1, none⟩ = false := by
  have hb1 := hg.block (B + 1) h.lt (fun e => by have := (h.own.lt _ e.symm).1; omega)
  exact ⟨by rw [World.cell?_of_block (a := ⟨B + 1, 1, none⟩) hb1]; exact h.c1, by rw [World.frozen?_of_block (a := ⟨B + 1, 1, none⟩) hb1]; exact h.f1⟩

theorem CfgAt.result {B : Nat} {w wr : World} {S P : Int} {ao : Option Addr} {cp : Nat} {ls : List (Int × Int)} (h : CfgAt B w wr S P ao cp ls) :
    wr.cell? ⟨B, 0, none⟩ = some (.int .i64 0) ∧ wr.cell? ⟨B, 1, none⟩ = some (.slice none 0 0) ∧ wr.cell? ⟨B, 2, none⟩ = some (.int .i64 0) ∧
      wr.frozen? ⟨B, 0, none⟩ = false ∧ wr.frozen? ⟨B, 1, none⟩ = false ∧ wr.frozen? ⟨B, 2, none⟩ = false := by
  have hb := h.blk
  refine ⟨?_, ?_, ?_, ?_, ?_, ?_⟩
  · simp [World.cell?, hb]
  · simp [World.cell?, hb]
  · simp [World.cell?, hb]
  · simp [World.frozen?, hb]
  · simp [World.frozen?, hb]
  · simp [World.frozen?, hb]

theorem CfgAt.done {B : Nat} {w wr : World} {S P : Int} {g cp : Nat} {ls : List (Int × Int)} (h : CfgAt B w wr S P (some ⟨g, 0, none⟩) cp ls) (x y z : Value) :
    Labs (((wr.setCell ⟨B, 0, none⟩ x).setCell ⟨B, 1, none⟩ y).setCell ⟨B, 2, none⟩ z) g 0 ls ∧ Below B w (((wr.setCell ⟨B, 0, none⟩ x).setCell ⟨B, 1, none⟩ y).setCell ⟨B, 2, none⟩ z) := by
  refine ⟨labs_of_own (base := B + 2) (cp := cp) ?_, ((h.below.setCell (by simp) _).setCell (by simp) _).setCell (by simp) _⟩
  exact ownsRow_setCell_below (ownsRow_setCell_below (ownsRow_setCell_below h.own (by simp) _) (by simp) _) (by simp) _

theorem labs_zero (W : World) (n : Nat) (h : W.heap.size = n) : Labs (W.alloc (.cells #[.int .i64 0, .int .i64 0] 54)) n 0 [(0, 0)] := by
  subst h
  refine ⟨by simp, fun i hi => ?_⟩
  obtain rfl : i = 0 := by simp at hi; omega
  constructor <;> go_simp

theorem ret_cfg {S P : Int} {g cp n m : Nat} (h : m = n) : Ending.returned (.agg #[.int .i64 S, .slice (some ⟨g, 0, none⟩) n cp, .int .i64 P]) = .returned (.agg #[.int .i64 S, .slice (some ⟨g, 0, none⟩) m cp, .int .i64 P]) := by rw [h]

end Go.Proofs.YtcfhhjnbkpgpeaaDoor
