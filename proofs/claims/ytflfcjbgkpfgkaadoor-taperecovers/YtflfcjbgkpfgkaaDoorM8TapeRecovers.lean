/- Texts of this claim, one behind the other. -/
import Derived.Test.YtflfcjbgkpfgkaaDoorM7TapeRecovers
import Derived.Test.YtflfcjbgkpfgkaaDoorM2TapeRecovers
import Derived.OwnWalk
import Derived.Test.YtflfcjbgkpfgkaaDoorA0TapeRecovers
import Derived.LoopTactic
import Derived.WalkSmall
/- The labels of a config made of raw numbers, as a list; and how the config that is being made lies in memory. -/
namespace Go.Proofs.YtflfcjbgkpfgkaaDoor
open Go.ChangeShapes Go.WideShapes Go.ChangeAt Go.RowKit

/-! ### The labels -/
def cfgStep (ls : List (Int × Int)) (n : Int) : List (Int × Int) := if ls.length < 4 ∧ (labL n, labC n) ∉ ls then ls ++ [(labL n, labC n)] else ls
def cfgRow (zs : List Int) (k : Nat) : List (Int × Int) := (zs.take k).foldl cfgStep []
def cfgLabs (zs : List Int) : List (Int × Int) := if cfgRow zs zs.length = [] then [(0, 0)] else cfgRow zs zs.length

theorem cfgRow_zero (zs : List Int) : cfgRow zs 0 = [] := by simp [cfgRow]
theorem cfgRow_succ {zs : List Int} {k : Nat} (h : k < zs.length) : cfgRow zs (k + 1) = cfgStep (cfgRow zs k) (zs.getD k 0) := by
  unfold cfgRow
  rw [List.take_succ_eq_append_getElem h, List.foldl_append]
  simp [List.getD, h]
theorem cfgStep_full {ls : List (Int × Int)} {n : Int} (h : 4 ≤ ls.length) : cfgStep ls n = ls := by
  unfold cfgStep; rw [if_neg (by omega)]
theorem cfgStep_there {ls : List (Int × Int)} {n : Int} (h : (labL n, labC n) ∈ ls) : cfgStep ls n = ls := by
  unfold cfgStep; rw [if_neg (fun hh => hh.2 h)]
theorem cfgStep_new {ls : List (Int × Int)} {n : Int} (h : ls.length < 4) (hn : (labL n, labC n) ∉ ls) : cfgStep ls n = ls ++ [(labL n, labC n)] := by
  unfold cfgStep; rw [if_pos ⟨h, hn⟩]
theorem cfgStep_len (ls : List (Int × Int)) (n : Int) (h : ls.length ≤ 4) : (cfgStep ls n).length ≤ 4 := by
  unfold cfgStep
  split
  · simp; omega
  · exact h
theorem cfgRow_full {zs : List Int} {k : Nat} (h : 4 ≤ (cfgRow zs k).length) (hk : k ≤ zs.length) : cfgRow zs zs.length = cfgRow zs k := by
  have : ∀ m, k + m ≤ zs.length → cfgRow zs (k + m) = cfgRow zs k := by
    intro m
    induction m with
    | zero => intro _; rfl
    | succ m ih =>
      intro hm
      have e := ih (by omega)
      rw [show k + (m + 1) = (k + m) + 1 by omega, cfgRow_succ (by omega), e, cfgStep_full h]
  have := this (zs.length - k) (by omega)
  rwa [show k + (zs.length - k) = zs.length by omega] at this

/-- Small labels, each once. -/
structure Good (ls : List (Int × Int)) : Prop where
  len : ls.length ≤ 4
  once : ls.Nodup
  small : ∀ p ∈ ls, 0 ≤ p.1 ∧ p.1 ≤ 2 ∧ 0 ≤ p.2 ∧ p.2 ≤ 3
theorem good_nil : Good [] := ⟨by simp, by simp, by simp⟩
theorem good_step {ls : List (Int × Int)} (n : Int) (h : Good ls) : Good (cfgStep ls n) := by
  unfold cfgStep
  split
  · rename_i hh
    refine ⟨by simp; omega, ?_, ?_⟩
    · rw [List.nodup_append]
      refine ⟨h.once, by simp, ?_⟩
      intro a ha b hb
      simp at hb
      subst hb
      intro e
      subst e
      exact hh.2 ha
    · intro p hp
      rcases List.mem_append.1 hp with hp | hp
      · exact h.small p hp
      · simp at hp
        subst hp
        have := labL_bd n
        have := labC_bd n
        simp
        omega
  · exact h
theorem good_row (zs : List Int) (k : Nat) : Good (cfgRow zs k) := by
  unfold cfgRow
  have : ∀ (l : List Int) (ls : List (Int × Int)), Good ls → Good (l.foldl cfgStep ls) := by
    intro l
    induction l with
    | nil => intro ls h; exact h
    | cons a l ih => intro ls h; exact ih _ (good_step a h)
  exact this _ _ good_nil
theorem good_labs (zs : List Int) : Good (cfgLabs zs) ∧ 1 ≤ (cfgLabs zs).length := by
  unfold cfgLabs
  split
  · exact ⟨⟨by simp, by simp, by simp⟩, by simp⟩
  · rename_i h
    exact ⟨good_row _ _, List.length_pos_iff.2 h⟩

theorem labFault_good : ∀ (rest seen : List (Int × Int)), (seen ++ rest).Nodup → (∀ p ∈ rest, 0 ≤ p.1 ∧ p.1 ≤ 2 ∧ 0 ≤ p.2 ∧ p.2 ≤ 3) → labFault seen rest = 0 := by
  intro rest
  induction rest with
  | nil => intro seen _ _; rfl
  | cons a r ih =>
    intro seen hn hs
    have ha := hs a (by simp)
    have hb : inB a.1 a.2 = true := by unfold inB; simp; omega
    have hm : a ∉ seen := by
      intro hm
      rw [List.nodup_append] at hn
      exact hn.2.2 a hm a (by simp) rfl
    rw [labFault, if_neg (by rw [hb]; simp), if_neg hm]
    refine ih _ ?_ (fun p hp => hs p (by simp [hp]))
    rwa [List.append_assoc]
theorem cfgFault_good {ls : List (Int × Int)} {s p : Int} (h : Good ls) (h1 : 1 ≤ ls.length) (hs : 1 ≤ s ∧ s ≤ 4) (hp : 1 ≤ p ∧ p ≤ 1048576) : cfgFault s ls p = 0 :=
  cfg_ok hs.1 hs.2 h1 (by have := h.len; omega) (labFault_good ls [] (by simpa using h.once) h.small) hp.1 hp.2

def cfgS (s : Int) : Int := 1 + pk s 3
def cfgP (p : Int) : Int := 1 + pk p 4
theorem cfgS_bd (s : Int) : 1 ≤ cfgS s ∧ cfgS s ≤ 3 := by have := pk_bd s 3 (by decide); unfold cfgS; omega
theorem cfgP_bd (s : Int) : 1 ≤ cfgP s ∧ cfgP s ≤ 4 := by have := pk_bd s 4 (by decide); unfold cfgP; omega

/-! ### In memory -/
def flat (ls : List (Int × Int)) : List Value := ls.flatMap fun p => [.int .i64 p.1, .int .i64 p.2]
theorem flat_len (ls : List (Int × Int)) : (flat ls).length = ls.length * 2 := by
  unfold flat
  induction ls with
  | nil => rfl
  | cons a l ih => simp at ih ⊢; omega
theorem flat_append (ls : List (Int × Int)) (x y : Int) : flat (ls ++ [(x, y)]) = flat ls ++ [.int .i64 x, .int .i64 y] := by simp [flat]
theorem flat_get (ls : List (Int × Int)) : ∀ i, i < ls.length → (flat ls)[i * 2]? = some (.int .i64 (ls.getD i (0, 0)).1) ∧ (flat ls)[i * 2 + 1]? = some (.int .i64 (ls.getD i (0, 0)).2) := by
  induction ls with
  | nil => intro i hi; simp at hi
  | cons a l ih =>
    intro i hi
    cases i with
    | zero => simp [flat]
    | succ i =>
      have := ih i (by simpa using hi)
      rw [show (i + 1) * 2 = i * 2 + 1 + 1 by omega]
      simpa [flat] using this

theorem Below.toGrown {w w' : World} (h : Below w.heap.size w w') : w.grownBy w' none := ⟨h.os, h.tape, h.output, h.size, fun k hk _ => h.block k hk⟩
theorem own_below {w w' : World} {base : Nat} {e : TypeId} {size : Nat} {v : Value} {n : Nat} {xs : List Value} (h : w.ownsRow base e size v n xs) (hb : Below w.heap.size w w') : w'.ownsRow base e size v n xs :=
  h.kept (Below.toGrown hb) (by cases hv : v.ownBlock <;> simp)

/-- Labels that a slice of the call's own holds lie in memory one behind the other. -/
theorem labs_of_own {w : World} {base : Nat} {g cp : Nat} {ls : List (Int × Int)} (h : w.ownsRow base 82 2 (.slice (some ⟨g, 0, none⟩) ls.length cp) ls.length (flat ls)) : Labs w g 0 ls := by
  have hlt := h.lt g rfl
  refine ⟨hlt.2, fun i hi => ?_⟩
  obtain ⟨h0, h1⟩ := flat_get ls i hi
  have a0 := h.cells (g := g) rfl _ _ h0
  have a1 := h.cells (g := g) rfl _ _ h1
  have e : ∀ j, (⟨g, 0, none⟩ : Addr).add j = ⟨g, 0 + j, none⟩ := by
    intro j
    unfold Addr.add
    by_cases hj : j = 0 <;> simp [hj]
  rw [e] at a0 a1
  exact ⟨a0, a1⟩
end Go.Proofs.YtflfcjbgkpfgkaaDoor
/- A slice of integers as it comes in: so many numbers, each of 64 bits. -/
namespace Go.Proofs.YtflfcjbgkpfgkaaDoor
open Go.ChangeShapes Go.WideShapes Go.ChangeAt Go.RowKit

/-- Numbers that came in as a slice. -/
def IsInts (w : World) (a : Option Addr) (len cap : Nat) (zs : List Int) : Prop :=
  zs.length = len ∧ len ≤ cap ∧ cap ≤ maxLen ∧ (∀ i, -9223372036854775808 ≤ zs.getD i 0 ∧ zs.getD i 0 ≤ 9223372036854775807) ∧
    (0 < len → ∃ b off, a = some ⟨b, off, none⟩ ∧ b < w.heap.size ∧ ∀ i, i < len → w.cell? ⟨b, off + i, none⟩ = some (.int .i64 (zs.getD i 0)))

theorem IsInts.below {w w' : World} {a : Option Addr} {len cap : Nat} {zs : List Int} (h : IsInts w a len cap zs) (hb : Below w.heap.size w w') : IsInts w' a len cap zs := by
  obtain ⟨h1, h2, h3, hbd, h4⟩ := h
  refine ⟨h1, h2, h3, hbd, fun hp => ?_⟩
  obtain ⟨b, off, e, hlt, hl⟩ := h4 hp
  refine ⟨b, off, e, Nat.lt_of_lt_of_le hlt hb.size, fun i hi => ?_⟩
  rw [hb.cell (p := ⟨b, off + i, none⟩) hlt]
  exact hl i hi

end Go.Proofs.YtflfcjbgkpfgkaaDoor
/- The contract of the raw Config: sites, labels each once, patience; what was in memory stays, and the labels lie in new memory. -/
namespace Go.Proofs.YtflfcjbgkpfgkaaDoor
open Go.ChangeShapes Go.WideShapes Go.ChangeAt Go.RowKit
set_option linter.unusedVariables false

/-- The config that is being made: its cells, the result's block, the labels' row; below B all is as it was. -/
structure CfgAt (B : Nat) (w wr : World) (S P : Int) (ao : Option Addr) (cp : Nat) (ls : List (Int × Int)) : Prop where
  c0 : wr.cell? ⟨B + 1, 0, none⟩ = some (.int .i64 S)
  c1 : wr.cell? ⟨B + 1, 1, none⟩ = some (.slice ao ls.length cp)
  c2 : wr.cell? ⟨B + 1, 2, none⟩ = some (.int .i64 P)
  f1 : wr.frozen? ⟨B + 1, 1, none⟩ = false
  blk : wr.heap[B]? = some (.cells #[.int .i64 0, .slice none 0 0, .int .i64 0] 24 (0, 0))
  lt : B + 1 < wr.heap.size
  own : wr.ownsRow (B + 2) 82 2 (.slice ao ls.length cp) ls.length (flat ls)
  below : Below B w wr

theorem CfgAt.mono {B : Nat} {w wr wr' : World} {S P : Int} {ao : Option Addr} {cp : Nat} {ls : List (Int × Int)} (h : CfgAt B w wr S P ao cp ls) (hb : Below wr.heap.size wr wr') : CfgAt B w wr' S P ao cp ls := by
  have hl := h.lt
  refine ⟨?_, ?_, ?_, ?_, ?_, Nat.lt_of_lt_of_le hl hb.size, own_below h.own hb, h.below.trans (hb.mono (by omega))⟩
  · rw [hb.cell (p := ⟨B + 1, 0, none⟩) hl]; exact h.c0
  · rw [hb.cell (p := ⟨B + 1, 1, none⟩) hl]; exact h.c1
  · rw [hb.cell (p := ⟨B + 1, 2, none⟩) hl]; exact h.c2
  · rw [hb.frozen (p := ⟨B + 1, 1, none⟩) hl]; exact h.f1
  · rw [hb.block B (by omega)]; exact h.blk

theorem labInfo : (Tryd.prog.info? 82).map (fun i => (i.zero, i.size, i.bytes)) = some (some (.agg #[.int .i64 0, .int .i64 0]), 2, 16) := by kernel_rfl

theorem cfgAt_start (w : World) (S P : Int) : CfgAt w.heap.size w ((w.alloc (.cells #[.int .i64 0, .slice none 0 0, .int .i64 0] 24)).alloc (.cells #[.int .i64 S, .slice none 0 0, .int .i64 P] 24)) S P none 0 [] := by
  refine ⟨by go_simp, by go_simp, by go_simp, by go_simp, ?_, by simp, World.ownsRow_nil _ _ _ _, ((Below.refl _ _).alloc (Nat.le_refl _) _).alloc (by simp) _⟩
  show ((w.heap.push _).push _)[w.heap.size]? = _
  simp only [Array.getElem?_push, Array.size_push]
  rw [if_neg (by omega), if_pos trivial]

theorem CfgAt.labs {B : Nat} {w wr : World} {S P : Int} {ao : Option Addr} {cp : Nat} {ls : List (Int × Int)} (h : CfgAt B w wr S P ao cp ls) (hp : 0 < ls.length) : ∃ g, ao = some ⟨g, 0, none⟩ ∧ B + 2 ≤ g ∧ Labs wr g 0 ls := by
  have ho := h.own
  rcases ho.2 with ⟨_, hn⟩ | ⟨g, cap, cur, hv, hb, _⟩
  · omega
  · simp at hv
    obtain ⟨rfl, rfl⟩ := hv
    exact ⟨g, rfl, hb, labs_of_own ho⟩

theorem CfgAt.room {B : Nat} {w wr : World} {S P : Int} {ao : Option Addr} {cp : Nat} {ls : List (Int × Int)} (h : CfgAt B w wr S P ao cp ls) : ls.length ≤ cp ∧ cp ≤ maxLen := by
  have ho := h.own
  rcases ho.2 with ⟨hv, hn⟩ | ⟨g, cap, cur, hv, hb, _, h1, h2, _⟩
  · simp at hv
    rw [hv.2.2]
    exact ⟨by omega, by unfold maxLen; omega⟩
  · simp at hv
    obtain ⟨rfl, rfl⟩ := hv
    exact ⟨h1, h2⟩

/-- A label more: behind the append and the store. -/
theorem CfgAt.push {B : Nat} {w wr w2 : World} {S P : Int} {ao : Option Addr} {cp g cp' : Nat} {ls : List (Int × Int)} {x y : Int} (h : CfgAt B w wr S P ao cp ls)
    (hown : w2.ownsRow (B + 2) 82 2 (.slice (some ⟨g, 0, none⟩) (ls.length + 1) cp') (ls.length + 1) (flat ls ++ [.int .i64 x, .int .i64 y]))
    (hg : wr.grownBy w2 (Value.slice ao ls.length cp).ownBlock) :
    CfgAt B w (w2.setCell ⟨B + 1, 1, none⟩ (.slice (some ⟨g, 0, none⟩) (ls.length + 1) cp')) S P (some ⟨g, 0, none⟩) cp' (ls ++ [(x, y)]) := by
  have hl := h.lt
  have hne : ∀ k, k < B + 2 → some k ≠ (Value.slice ao ls.length cp).ownBlock := by
    intro k hk e
    have := (h.own.lt k e.symm).1
    omega
  have hb1 := hg.block (B + 1) hl (hne _ (by omega))
  have hb0 := hg.block B (by omega) (hne _ (by omega))
  have k0 : w2.cell? ⟨B + 1, 0, none⟩ = some (.int .i64 S) := by rw [World.cell?_of_block (a := ⟨B + 1, 0, none⟩) hb1]; exact h.c0
  have k1 : w2.cell? ⟨B + 1, 1, none⟩ = some (.slice ao ls.length cp) := by rw [World.cell?_of_block (a := ⟨B + 1, 1, none⟩) hb1]; exact h.c1
  have k2 : w2.cell? ⟨B + 1, 2, none⟩ = some (.int .i64 P) := by rw [World.cell?_of_block (a := ⟨B + 1, 2, none⟩) hb1]; exact h.c2
  have kf : w2.frozen? ⟨B + 1, 1, none⟩ = false := by rw [World.frozen?_of_block (a := ⟨B + 1, 1, none⟩) hb1]; exact h.f1
  refine ⟨?_, ?_, ?_, ?_, ?_, ?_, ?_, ?_⟩
  · go_simp
  · simp only [List.length_append, List.length_singleton]
    go_simp
  · go_simp
  · go_simp
  · rw [Below.heap_setCell _ _ _ _ (by simp), hb0]; exact h.blk
  · have := hg.size
    simp
    omega
  · have := ownsRow_setCell_below hown (a := ⟨B + 1, 1, none⟩) (by simp) (.slice (some ⟨g, 0, none⟩) (ls.length + 1) cp')
    rw [flat_append]
    simpa using this
  · refine Below.setCell (h.below.grown hg (by omega) (fun k hk => ?_)) (by simp) _
    have := (h.own.lt k hk).1
    omega

theorem CfgAt.after {B : Nat} {w wr w2 : World} {S P : Int} {ao : Option Addr} {cp : Nat} {ls : List (Int × Int)} (h : CfgAt B w wr S P ao cp ls)
    (hg : wr.grownBy w2 (Value.slice ao ls.length cp).ownBlock) : w2.cell? ⟨B + 1, 1, none⟩ = some (.slice ao ls.length cp) ∧ w2.frozen? ⟨B + 1, 1, none⟩ = false := by
  have hb1 := hg.block (B + 1) h.lt (fun e => by have := (h.own.lt _ e.symm).1; omega)
  exact ⟨by rw [World.cell?_of_block (a := ⟨B + 1, 1, none⟩) hb1]; exact h.c1, by rw [World.frozen?_of_block (a := ⟨B + 1, 1, none⟩) hb1]; exact h.f1⟩

theorem CfgAt.result {B : Nat} {w wr : World} {S P : Int} {ao : Option Addr} {cp : Nat} {ls : List (Int × Int)} (h : CfgAt B w wr S P ao cp ls) :
    wr.cell? ⟨B, 0, none⟩ = some (.int .i64 0) ∧ wr.cell? ⟨B, 1, none⟩ = some (.slice none 0 0) ∧ wr.cell? ⟨B, 2, none⟩ = some (.int .i64 0) ∧
      wr.frozen? ⟨B, 0, none⟩ = false ∧ wr.frozen? ⟨B, 1, none⟩ = false ∧ wr.frozen? ⟨B, 2, none⟩ = false := by
  have hb := h.blk
  refine ⟨?_, ?_, ?_, ?_, ?_, ?_⟩
  · simp [World.cell?, hb]
  · simp [World.cell?, hb]
  · simp [World.cell?, hb]
  · simp [World.frozen?, hb]
  · simp [World.frozen?, hb]
  · simp [World.frozen?, hb]

theorem CfgAt.done {B : Nat} {w wr : World} {S P : Int} {g cp : Nat} {ls : List (Int × Int)} (h : CfgAt B w wr S P (some ⟨g, 0, none⟩) cp ls) (x y z : Value) :
    Labs (((wr.setCell ⟨B, 0, none⟩ x).setCell ⟨B, 1, none⟩ y).setCell ⟨B, 2, none⟩ z) g 0 ls ∧ Below B w (((wr.setCell ⟨B, 0, none⟩ x).setCell ⟨B, 1, none⟩ y).setCell ⟨B, 2, none⟩ z) := by
  refine ⟨labs_of_own (base := B + 2) (cp := cp) ?_, ((h.below.setCell (by simp) _).setCell (by simp) _).setCell (by simp) _⟩
  exact ownsRow_setCell_below (ownsRow_setCell_below (ownsRow_setCell_below h.own (by simp) _) (by simp) _) (by simp) _

theorem labs_zero (W : World) (n : Nat) (h : W.heap.size = n) : Labs (W.alloc (.cells #[.int .i64 0, .int .i64 0] 82)) n 0 [(0, 0)] := by
  subst h
  refine ⟨by simp, fun i hi => ?_⟩
  obtain rfl : i = 0 := by simp at hi; omega
  constructor <;> go_simp

theorem ret_cfg {S P : Int} {g cp n m : Nat} (h : m = n) : Ending.returned (.agg #[.int .i64 S, .slice (some ⟨g, 0, none⟩) n cp, .int .i64 P]) = .returned (.agg #[.int .i64 S, .slice (some ⟨g, 0, none⟩) m cp, .int .i64 P]) := by rw [h]

set_option maxRecDepth 100000 in
set_option maxHeartbeats 4000000 in
theorem config_any (s p : Int) (a : Option Addr) (len cap : Nat) (zs : List Int) (w : World) (hs : -9223372036854775808 ≤ s ∧ s ≤ 9223372036854775807) (hp : -9223372036854775808 ≤ p ∧ p ≤ 9223372036854775807) (h : IsInts w a len cap zs) :
    Calls Tryd.prog 14 #[.int .i64 s, .slice a len cap, .int .i64 p] w fun e w' => ∃ g cp : Nat,
      e = .returned (.agg #[.int .i64 (cfgS s), .slice (some ⟨g, 0, none⟩) (cfgLabs zs).length cp, .int .i64 (cfgP p)]) ∧ w.heap.size ≤ g ∧ (cfgLabs zs).length ≤ cp ∧ cp ≤ maxLen ∧ Labs w' g 0 (cfgLabs zs) ∧ Below w.heap.size w w' := by
  obtain ⟨i0, hi, li0, li1, li2⟩ := info_parts labInfo
  have bs := cfgS_bd s
  have bp := cfgP_bd p
  have ps := pk_bd s 3 (by decide)
  have pp := pk_bd p 4 (by decide)
  have es : 1 + pk s 3 = cfgS s := rfl
  have ep : 1 + pk p 4 = cfgP p := rfl
  obtain ⟨hlen, hlc, hmx, hbd, hrow⟩ := id h
  unfold maxLen at hmx
  go_enter Tryd.func14, Tryd.ntmps14
  go_wp2_with (go_at_call 18; refine (picked_any _ _ _ (by assumption) (by decide) (by decide)).mono ?_; rintro e w1 ⟨rfl, rfl⟩)
  clear es ep ps pp
  have hst := cfgAt_start w (cfgS s) (cfgP p)
  obtain ⟨W0, hW0⟩ : ∃ W0 : World, W0 = (w.alloc (.cells #[.int .i64 0, .slice none 0 0, .int .i64 0] 24)).alloc (.cells #[.int .i64 (cfgS s), .slice none 0 0, .int .i64 (cfgP p)] 24) := ⟨_, rfl⟩
  rw [← hW0] at hst ⊢
  clear hW0
  go_loopw [8] (fun i wr => ∃ (k : Nat) (ao : Option Addr) (cp : Nat), k ≤ len ∧ i = .int .i64 k ∧ CfgAt w.heap.size w wr (cfgS s) (cfgP p) ao cp (cfgRow zs k)) (fun i _ => len - (intOf i).toNat)
  case atStart => exact ⟨0, none, 0, Nat.zero_le _, rfl, by rw [cfgRow_zero]; exact hst⟩
  case round =>
    obtain ⟨k, ao, cp, hk, rfl, H⟩ := hrel
    obtain ⟨ls, hls⟩ : ∃ ls, ls = cfgRow zs k := ⟨_, rfl⟩
    rw [← hls] at H
    have hg4 : ls.length ≤ 4 := by rw [hls]; exact (good_row zs k).len
    have HL : Hid (ls = cfgRow zs k) := hls
    clear hls
    have d0 := H.c0
    have d1 := H.c1
    have d2 := H.c2
    by_cases hlt : k < len
    · by_cases h4 : ls.length < 4
      · have h4' : (ls.length : Int) < 4 := by omega
        have hlt' : (k : Int) < (len : Int) := by omega
        obtain ⟨b, off, rfl, hbw, hcell⟩ := hrow (by omega)
        obtain ⟨z, hz⟩ : ∃ z, z = zs.getD k 0 := ⟨_, rfl⟩
        have hzb := hbd k
        have hzc : wr.cell? ⟨b, off + k, none⟩ = some (.int .i64 z) := by
          rw [H.below.cell (p := ⟨b, off + k, none⟩) hbw, hz]; exact hcell k hlt
        rw [← hz] at hzb
        have HZ : Hid (z = zs.getD k 0) := hz
        clear hz
        go_wp2_with (go_at_call 40; refine (lab_any z _ hzb).mono ?_; rintro e w1 ⟨rfl, hb1⟩; have H1 := H.mono hb1; have d1 := H1.c1; have hz1 : w.heap.size + 1 < w1.heap.size := H1.lt)
        obtain ⟨x, hx⟩ : ∃ x, x = labL z := ⟨_, rfl⟩
        obtain ⟨y, hy⟩ : ∃ y, y = labC z := ⟨_, rfl⟩
        rw [← hx, ← hy]
        have HX : Hid (x = labL z) := hx
        have HY : Hid (y = labC z) := hy
        clear hx hy
        have H2 := H1.mono ((Below.refl _ _).alloc (Nat.le_refl _) (.cells #[.int .i64 x, .int .i64 y] 82))
        have q0 : (w1.alloc (.cells #[.int .i64 x, .int .i64 y] 82)).cell? ⟨w1.heap.size, 0, none⟩ = some (.int .i64 x) := by go_simp
        have q1 : (w1.alloc (.cells #[.int .i64 x, .int .i64 y] 82)).cell? ⟨w1.heap.size, 1, none⟩ = some (.int .i64 y) := by go_simp
        have hq : w1.heap.size < (w1.alloc (.cells #[.int .i64 x, .int .i64 y] 82)).heap.size := by simp
        obtain ⟨wo, hwo⟩ : ∃ wo : World, wo = w1.alloc (.cells #[.int .i64 x, .int .i64 y] 82) := ⟨_, rfl⟩
        rw [← hwo] at H2 q0 q1 hq ⊢
        clear hwo H1 H d0 d1 d2 hb1 hzc
        go_loopw [10, 40] (fun t i wr => ∃ j : Nat, j ≤ ls.length ∧ i = .int .i64 j ∧ t = .bool (decide ((x, y) ∈ ls.take j)) ∧ Below wo.heap.size wo wr) (fun _ i _ => ls.length - (intOf i).toNat)
        case atStart => exact ⟨0, Nat.zero_le _, rfl, by simp, Below.refl _ _⟩
        case round =>
          obtain ⟨j, hj, rfl, rfl, hbo⟩ := hrel
          have H3 := H2.mono hbo
          have r0 : wr.cell? ⟨w1.heap.size, 0, none⟩ = some (.int .i64 x) := by rw [hbo.cell (p := ⟨w1.heap.size, 0, none⟩) hq]; exact q0
          have r1 : wr.cell? ⟨w1.heap.size, 1, none⟩ = some (.int .i64 y) := by rw [hbo.cell (p := ⟨w1.heap.size, 1, none⟩) hq]; exact q1
          have hqr : w1.heap.size < wr.heap.size := Nat.lt_of_lt_of_le hq hbo.size
          by_cases hjl : j < ls.length
          · have hjl' : (j : Int) < (ls.length : Int) := by omega
            obtain ⟨g, rfl, hgB, hL⟩ := H3.labs (by omega)
            have hr := hL.2 j hjl
            obtain ⟨u, hu⟩ : ∃ p, p = (ls.getD j (0, 0)).1 := ⟨_, rfl⟩
            obtain ⟨v, hv⟩ : ∃ q, q = (ls.getD j (0, 0)).2 := ⟨_, rfl⟩
            rw [← hu, ← hv, Nat.zero_add] at hr
            obtain ⟨g2, g3⟩ := hr
            have hbn : Below wo.heap.size wo (wr.alloc (.cells #[.int .i64 u, .int .i64 v] 82)) := hbo.alloc hbo.size _
            by_cases hT : (x, y) ∈ ls.take j
            · have hT' : (x, y) ∈ ls.take (j + 1) := List.take_subset_take_left ls (by omega) hT
              clear hu hv
              go_wp2
              go_roundw
              case rel => exact ⟨j + 1, by omega, by go_num, by simp [hT'], hbn⟩
              case measure => simp [intOf]; omega
            · by_cases e1 : u = x
              · by_cases e2 : v = y
                · have hT' : (x, y) ∈ ls.take (j + 1) := by
                    refine mem_of_getD (k := j) (by simp; omega) ?_ ?_
                    · rw [← e1, hu]; simp [List.getD]
                    · rw [← e2, hv]; simp [List.getD]
                  clear hu hv
                  subst e1 e2
                  go_wp2
                  go_roundw
                  case rel => exact ⟨j + 1, by omega, by go_num, by simp [hT'], hbn⟩
                  case measure => simp [intOf]; omega
                · have hn := not_take_succ (p := (x, y)) hjl hT (by rw [← hu, ← hv]; simp; intro _; exact fun h => e2 h.symm)
                  have e3 : (v == y) = false := by simpa using e2
                  clear hu hv
                  subst e1
                  go_wp2
                  go_roundw
                  case rel => exact ⟨j + 1, by omega, by go_num, by simp [hn], hbn⟩
                  case measure => simp [intOf]; omega
              · have hn := not_take_succ (p := (x, y)) hjl hT (by rw [← hu, ← hv]; simp; intro h; exact absurd h.symm e1)
                have e3 : (u == x) = false := by simpa using e1
                clear hu hv
                go_wp2
                go_roundw
                case rel => exact ⟨j + 1, by omega, by go_num, by simp [hn], hbn⟩
                case measure => simp [intOf]; omega
          · have hje : j = ls.length := by omega
            subst hje
            rw [List.take_length]
            by_cases hT : (x, y) ∈ ls
            · have hrow' : cfgRow zs (k + 1) = ls := by
                rw [cfgRow_succ (by omega), ← HL.out, ← HZ.out]
                exact cfgStep_there (by rw [← HX.out, ← HY.out]; exact hT)
              go_wp2
              go_roundw
              case rel => exact ⟨k + 1, ao, cp, by omega, by go_num, by rw [hrow']; exact H3⟩
              case measure => simp [intOf]; omega
            · have hrow' : cfgRow zs (k + 1) = ls ++ [(x, y)] := by
                rw [cfgRow_succ (by omega), ← HL.out, ← HZ.out, cfgStep_new h4 (by rw [← HX.out, ← HY.out]; exact hT), ← HX.out, ← HY.out]
              have d1 := H3.c1
              have f1 := H3.f1
              have hlt3 := H3.lt
              have HA := H3.mono ((Below.refl _ _).alloc (Nat.le_refl _) (.cells #[.int .i64 x, .int .i64 y] 82))
              have hws : w.heap.size + 2 ≤ (wr.alloc (.cells #[.int .i64 x, .int .i64 y] 82)).heap.size := by simp; omega
              go_wp2_with (at_builtin; go_loud (refine wpList_append_own _ rfl _ _ 22 rfl (w.heap.size + 2) 82 i0 (.agg #[.int .i64 0, .int .i64 0]) 2 16 Tryd.underlying22 hi li0 li1 li2 rfl (by decide) _ _ _ rfl HA.own ⟨wr.heap.size, 0, none⟩ 1 1 [.int .i64 x, .int .i64 y] rfl rfl ?c1 ?c2 ?c3 ?c4 hws ?_))
              case c1 => exact cell_two_new wr _ _ _
              case c2 =>
                intro u hu
                simp at hu
                rcases hu with rfl | rfl <;> rfl
              case c3 => unfold maxLen; omega
              case c4 => omega
              intro v' w2 hown' hgrow _
              have hex : ∃ g cp', v' = .slice (some ⟨g, 0, none⟩) (ls.length + 1) cp' := by
                rcases hown'.2 with ⟨_, hn⟩ | ⟨g, cap, cur, hv, _⟩
                · omega
                · exact ⟨g, cap, hv⟩
              obtain ⟨g, cp', hv⟩ := hex
              rw [hv] at hown' ⊢
              have R := HA.push hown' hgrow
              obtain ⟨k1, k2⟩ := HA.after hgrow
              clear hown' hgrow
              go_wp2
              go_roundw
              case rel => exact ⟨k + 1, some ⟨g, 0, none⟩, cp', by omega, by go_num, by rw [hrow']; exact R⟩
              case measure => simp [intOf]; omega
      · have h4' : ¬ (ls.length : Int) < 4 := by omega
        have hnz : ¬ (ls.length : Int) = 0 := by omega
        have hfin : Hid (cfgLabs zs = ls) := by
          show cfgLabs zs = ls
          have e := cfgRow_full (zs := zs) (k := k) (by rw [← HL.out]; omega) (by omega)
          unfold cfgLabs
          rw [e, ← HL.out, if_neg (by intro h; rw [h] at h4; simp at h4)]
        obtain ⟨g, rfl, hgB, hL⟩ := H.labs (by omega)
        obtain ⟨b0, b1, b2, f0, f1, f2⟩ := H.result
        have hroom := H.room
        have hD := H.done (.int .i64 (cfgS s)) (.slice (some ⟨g, 0, none⟩) ls.length cp) (.int .i64 (cfgP p))
        go_wp2
        refine bodyPost_ret (v := .agg #[.int .i64 (cfgS s), .slice (some ⟨g, 0, none⟩) ls.length cp, .int .i64 (cfgP p)]) (by simp [results, Tryd.results14, go_sem, b0, b1, b2]) rfl ⟨g, cp, ret_cfg (by rw [hfin.out]), by omega, by rw [hfin.out]; exact hroom.1, hroom.2, ?_, hD.2⟩
        rw [hfin.out]
        exact hD.1
    · have hke : k = len := by omega
      have hrz : Hid (cfgRow zs zs.length = ls) := by
        show cfgRow zs zs.length = ls
        rw [HL.out, hke, hlen]
      obtain ⟨b0, b1, b2, f0, f1, f2⟩ := H.result
      have hroom := H.room
      subst hke
      by_cases hne : ls.length = 0
      · obtain rfl : ls = [] := List.length_eq_zero_iff.1 hne
        have hfin : Hid (cfgLabs zs = [(0, 0)]) := by
          show cfgLabs zs = [(0, 0)]
          unfold cfgLabs
          rw [hrz.out, if_pos rfl]
        have hF := H.f1
        have hlt3 := H.lt
        have hlt4 : w.heap.size < wr.heap.size := by omega
        have hbl := H.below
        go_wp2
        refine bodyPost_ret (v := .agg #[.int .i64 (cfgS s), .slice (some ⟨wr.heap.size, 0, none⟩) 1 1, .int .i64 (cfgP p)]) (by simp [results, Tryd.results14, go_sem, b0, b1, b2, hlt4]) rfl ⟨wr.heap.size, 1, ret_cfg (by rw [hfin.out]; rfl), by omega, by rw [hfin.out]; simp, by unfold maxLen; omega, ?_, ?_⟩
        · rw [hfin.out]
          exact labs_zero _ _ (by simp)
        · exact ((((hbl.setCell (by simp) _).setCell (by simp) _).setCell (by simp) _).setCell (by simp) _).alloc (by simp; omega) _
      · have hnz : ¬ (ls.length : Int) = 0 := by omega
        have hfin : Hid (cfgLabs zs = ls) := by
          show cfgLabs zs = ls
          unfold cfgLabs
          rw [hrz.out, if_neg (by intro h; rw [h] at hne; simp at hne)]
        obtain ⟨g, rfl, hgB, hL⟩ := H.labs (by omega)
        have hD := H.done (.int .i64 (cfgS s)) (.slice (some ⟨g, 0, none⟩) ls.length cp) (.int .i64 (cfgP p))
        go_wp2
        refine bodyPost_ret (v := .agg #[.int .i64 (cfgS s), .slice (some ⟨g, 0, none⟩) ls.length cp, .int .i64 (cfgP p)]) (by simp [results, Tryd.results14, go_sem, b0, b1, b2]) rfl ⟨g, cp, ret_cfg (by rw [hfin.out]), by omega, by rw [hfin.out]; exact hroom.1, hroom.2, ?_, hD.2⟩
        rw [hfin.out]
        exact hD.1
end Go.Proofs.YtflfcjbgkpfgkaaDoor
