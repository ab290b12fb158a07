/- Texts of this claim, one behind the other. -/
import Derived.Test.YtlaagfnoepcnlaaDoorM10LinesBack
import Derived.LoopTactic
import Derived.Deep.QuietTactic
import Derived.BigQuiet
import Derived.Test.YtlaagfnoepcnlaaDoorM26LinesBack
import Derived.Test.YtlaagfnoepcnlaaDoorM20LinesBack
import Derived.Test.YtlaagfnoepcnlaaDoorM12LinesBack
import Derived.Test.YtlaagfnoepcnlaaDoorRows
import Derived.JoinedOf
import Derived.KernelRfl
/- Contracts of sameInts and sameActs: at the same numbers, at the same acts, they return true and leave what was in memory. -/
namespace Go.Proofs.YtlaagfnoepcnlaaDoor
open Go.ChangeShapes Go.WideShapes Go.ChangeAt Go.RowKit
set_option linter.unusedVariables false

set_option maxHeartbeats 1000000 in
theorem sameInts_any (a b : Option Addr) (n cap cap' : Nat) (zs : List Int) (w : World) (h : IsInts w a n cap zs) (h' : IsInts w b n cap' zs) :
    Calls Tryd.prog 35 #[.slice a n cap, .slice b n cap'] w fun e w' => e = .returned (.bool true) ∧ Below w.heap.size w w' := by
  have hmx : n ≤ maxLen := Nat.le_trans h.2.1 h.2.2.1
  unfold maxLen at hmx
  go_enter Tryd.func35, Tryd.ntmps35
  go_wp2
  go_loopw [5] (fun i wr => ∃ k : Nat, k ≤ n ∧ i = .int .i64 k ∧ Below w.heap.size w wr) (fun i _ => n - (intOf i).toNat)
  case atStart => exact ⟨0, Nat.zero_le _, rfl, Below.refl _ _⟩
  case round =>
    obtain ⟨k, hk, rfl, hb⟩ := hrel
    by_cases hlt : k < n
    · have hlt' : (k : Int) < (n : Int) := by omega
      obtain ⟨b1, o1, rfl, _, c1⟩ := (h.below hb).2.2.2.2 (by omega)
      obtain ⟨b2, o2, rfl, _, c2⟩ := (h'.below hb).2.2.2.2 (by omega)
      have e1 := c1 k hlt
      have e2 := c2 k hlt
      obtain ⟨z, hz⟩ : ∃ z, z = zs.getD k 0 := ⟨_, rfl⟩
      rw [← hz] at e1 e2
      clear hz c1 c2
      go_wp2
      go_quiet (fail)
      go_wp2
      go_roundw
      case rel => exact ⟨k + 1, by omega, by go_num, below_drewN hb nq⟩
      case measure => simp [intOf]; omega
    · go_wp2
      go_ret
      exact ⟨rfl, hb⟩

set_option maxHeartbeats 4000000 in
theorem sameActs_any (a b : Option Addr) (n cap cap' : Nat) (xs ys : List AV) (w : World) (h : IsActs w a n cap xs) (h' : IsActs w b n cap' ys) (hs : xs.map AV.bare = ys.map AV.bare) :
    Calls Tryd.prog 16 #[.slice a n cap, .slice b n cap'] w fun e w' => e = .returned (.bool true) ∧ Below w.heap.size w w' := by
  have hmx : n ≤ maxLen := Nat.le_trans h.2.1 h.2.2.1
  unfold maxLen at hmx
  go_enter Tryd.func16, Tryd.ntmps16
  go_wp2
  go_loopw [5] (fun i wr => ∃ k : Nat, k ≤ n ∧ i = .int .i64 k ∧ Below w.heap.size w wr) (fun i _ => n - (intOf i).toNat)
  case atStart => exact ⟨0, Nat.zero_le _, rfl, Below.refl _ _⟩
  case round =>
    obtain ⟨k, hk, rfl, hb⟩ := hrel
    by_cases hlt : k < n
    · have hlt' : (k : Int) < (n : Int) := by omega
      obtain ⟨g1, o1, rfl, t1⟩ := (h.below hb).2.2.2 (by omega)
      obtain ⟨g2, o2, rfl, t2⟩ := (h'.below hb).2.2.2 (by omega)
      have hl1 := h.1
      have hl2 := h'.1
      obtain ⟨p1, q1⟩ := t1.2 k (by omega)
      obtain ⟨p2, q2⟩ := t2.2 k (by omega)
      have hsame : (xs.getD k default).bare = (ys.getD k default).bare := by
        have e := congrArg (fun l : List AV => l[k]?) hs
        simp only [List.getElem?_map] at e
        rw [List.getElem?_eq_getElem (by omega), List.getElem?_eq_getElem (by omega)] at e
        simp at e
        simpa [List.getD, show k < xs.length by omega, show k < ys.length by omega] using e
      obtain ⟨x, ex⟩ : ∃ x, x = xs.getD k default := ⟨_, rfl⟩
      obtain ⟨y, ey⟩ : ∃ y, y = ys.getD k default := ⟨_, rfl⟩
      rw [← ex, ← ey] at hsame
      rw [← ex] at p1 q1
      rw [← ey] at p2 q2
      clear ex ey
      obtain ⟨kind, site, to9, label, pick, ka, kl, kc, c0, c1, c2, c3, c4, line, keep⟩ := x
      obtain ⟨kind', site', to9', label', pick', ka', kl', kc', c0', c1', c2', c3', c4', line', keep'⟩ := y
      simp [AV.bare] at hsame
      obtain ⟨rfl, rfl, rfl, rfl, rfl, rfl, rfl, rfl, rfl, rfl, rfl, rfl⟩ := hsame
      simp only [] at q1 q2
      obtain rfl : kl = keep.length := q1.1.symm
      obtain rfl : kl' = keep.length := q2.1.symm
      have a0 := (p1 0 (by decide)).trans (show _ = some (Value.int .i64 kind) from rfl)
      have a1 := (p1 1 (by decide)).trans (show _ = some (Value.int .i64 site) from rfl)
      have a2 := (p1 2 (by decide)).trans (show _ = some (Value.int .i64 to9) from rfl)
      have a3 := (p1 3 (by decide)).trans (show _ = some (Value.int .i64 label) from rfl)
      have a4 := (p1 4 (by decide)).trans (show _ = some (Value.int .i64 pick) from rfl)
      have a5 := (p1 5 (by decide)).trans (show _ = some (Value.slice ka keep.length kc) from rfl)
      have a6 := (p1 6 (by decide)).trans (show _ = some (Value.int .i64 c0) from rfl)
      have a7 := (p1 7 (by decide)).trans (show _ = some (Value.int .i64 c1) from rfl)
      have a8 := (p1 8 (by decide)).trans (show _ = some (Value.int .i64 c2) from rfl)
      have a9 := (p1 9 (by decide)).trans (show _ = some (Value.int .i64 c3) from rfl)
      have a10 := (p1 10 (by decide)).trans (show _ = some (Value.int .i64 c4) from rfl)
      have a11 := (p1 11 (by decide)).trans (show _ = some (Value.string line) from rfl)
      have b0 := (p2 0 (by decide)).trans (show _ = some (Value.int .i64 kind) from rfl)
      have b1 := (p2 1 (by decide)).trans (show _ = some (Value.int .i64 site) from rfl)
      have b2 := (p2 2 (by decide)).trans (show _ = some (Value.int .i64 to9) from rfl)
      have b3 := (p2 3 (by decide)).trans (show _ = some (Value.int .i64 label) from rfl)
      have b4 := (p2 4 (by decide)).trans (show _ = some (Value.int .i64 pick) from rfl)
      have b5 := (p2 5 (by decide)).trans (show _ = some (Value.slice ka' keep.length kc') from rfl)
      have b6 := (p2 6 (by decide)).trans (show _ = some (Value.int .i64 c0) from rfl)
      have b7 := (p2 7 (by decide)).trans (show _ = some (Value.int .i64 c1) from rfl)
      have b8 := (p2 8 (by decide)).trans (show _ = some (Value.int .i64 c2) from rfl)
      have b9 := (p2 9 (by decide)).trans (show _ = some (Value.int .i64 c3) from rfl)
      have b10 := (p2 10 (by decide)).trans (show _ = some (Value.int .i64 c4) from rfl)
      have b11 := (p2 11 (by decide)).trans (show _ = some (Value.string line) from rfl)
      rw [Nat.add_zero] at a0 b0
      clear p1 p2 t1 t2
      have hz1 : g1 < wr.heap.size := World.block_lt_of_cell? wr _ a0
      have hz2 : g2 < wr.heap.size := World.block_lt_of_cell? wr _ b0
      go_wp2_with (go_at_call 35; refine (sameInts_any _ _ _ _ _ keep _ (q1.below (((Below.refl _ _).alloc (Nat.le_refl _) _).alloc (by simp) _)) (q2.below (((Below.refl _ _).alloc (Nat.le_refl _) _).alloc (by simp) _))).mono ?_; rintro e w3 ⟨rfl, hb3⟩)
      go_roundw
      case rel => exact ⟨k + 1, by omega, by go_num, hb.trans ((((Below.refl _ _).alloc hb.size _).alloc (by have := hb.size; simp; omega) _).trans (hb3.mono (by have := hb.size; simp; omega)))⟩
      case measure => simp [intOf]; omega
    · go_wp2
      go_ret
      exact ⟨rfl, hb⟩
end Go.Proofs.YtlaagfnoepcnlaaDoor
/- The walk of the law LinesBack: at any numbers it returns true and leaves what was in memory. -/
namespace Go.Proofs.YtlaagfnoepcnlaaDoor.Ln
open Go.ChangeShapes Go.WideShapes Go.ChangeAt Go.RowKit
open Go.Proofs.YtlaagfnoepcnlaaDoor.St (BoxN boxn_new own_below IsRow Elem flat own_isRow)
set_option linter.unusedVariables false

def crashA (ka : Option Addr) : AV := ⟨6, 0, 0, 0, 0, ka, 1, 1, 0, 0, 0, 0, 0, .empty, [20]⟩
theorem crash_line (ka : Option Addr) : linesOf [crashA ka] = [99, 114, 97, 115, 104, 32, 48, 32, 50, 48, 10] := by
  have h0 : Lib.itoa 0 = [48] := by simp [Lib.itoa, Lib.decDigits]
  have h20 : Lib.itoa 20 = [50, 48] := by simp [Lib.itoa, Lib.decDigits]
  simp only [linesOf, actLine, actW, crashA]
  rw [show (6 : Int).toNat = 6 from rfl]
  simp [aHas, numsW, wNum, aWord, h0, h20, Lib.join, List.intercalate]
theorem crash_ok {s p : Int} {ls : List (Int × Int)} (ka : Option Addr) (hc : cfgFault s ls p = 0) : actFault s ls p (crashA ka) = 0 := by
  have := cfg_zero hc
  unfold actFault
  rw [if_neg (by simp [hc])]
  have i1 : inR (crashA ka).kind 1 8 = true := by rfl
  have i2 : actIn s ls.length (crashA ka) = true := by
    simp [actIn, keepIn, crashA, inR, plc]
    exact ⟨decide_eq_true (by omega), by omega, by omega⟩
  rw [i1, i2]
  rfl
theorem bare_nk : ∀ (ys zs : List AV), ys.map nk = zs.map nk → ys.map AV.bare = zs.map AV.bare := fun ys zs h => by
  have e : AV.bare = AV.bare ∘ nk := rfl
  rw [e, ← List.map_map, ← List.map_map, h]
theorem linesOf_bd2 {s : Int} {ls : List (Int × Int)} {p : Int} (hl : ls.length ≤ 6) (hs : s ≤ 4) : ∀ (xs : List AV), (∀ x ∈ xs, actFault s ls p x = 0 ∧ x.keep.length = x.kl) → (linesOf xs).length ≤ 2075 * xs.length
  | [], _ => by simp [linesOf]
  | x :: r, h => by
    have h1 := h x (by simp)
    have h2 := actLine_bd (act_ok hl hs h1.2 h1.1)
    have h3 := linesOf_bd2 hl hs r (fun y hy => h y (by simp [hy]))
    simp only [linesOf, actLine, List.length_append, List.length_cons, List.length_nil]
    omega
theorem nk_nk (xs : List AV) : (xs.map nk).map nk = xs.map nk := by simp [List.map_map, Function.comp_def, nk]
/-- One act in a row of its own. -/
theorem crash_acts (u : World) (k q : Nat) (hk : k = u.heap.size) (hq : q = u.heap.size + 1) : IsActs ((u.alloc (.cells #[.int .i64 20] 3)).alloc (.cells #[.int .i64 6, .int .i64 0, .int .i64 0, .int .i64 0, .int .i64 0, .slice (some ⟨k, 0, none⟩) 1 1, .int .i64 0, .int .i64 0, .int .i64 0, .int .i64 0, .int .i64 0, .string .empty] 41)) (some ⟨q, 0, none⟩) 1 1 [crashA (some ⟨k, 0, none⟩)] := by
  subst hk hq
  have e1 : (u.alloc (.cells #[.int .i64 20] 3)).heap.size = u.heap.size + 1 := by simp
  have b1 := boxn_new u #[.int .i64 20] 3 1 rfl
  have b2 := boxn_new (u.alloc (.cells #[.int .i64 20] 3)) #[.int .i64 6, .int .i64 0, .int .i64 0, .int .i64 0, .int .i64 0, .slice (some ⟨u.heap.size, 0, none⟩) 1 1, .int .i64 0, .int .i64 0, .int .i64 0, .int .i64 0, .int .i64 0, .string .empty] 41 12 rfl
  rw [e1] at b2
  have b1' := b1.below (u' := (u.alloc (.cells #[.int .i64 20] 3)).alloc (.cells #[.int .i64 6, .int .i64 0, .int .i64 0, .int .i64 0, .int .i64 0, .slice (some ⟨u.heap.size, 0, none⟩) 1 1, .int .i64 0, .int .i64 0, .int .i64 0, .int .i64 0, .int .i64 0, .string .empty] 41)) ((Below.refl _ _).alloc (Nat.le_refl _) _) b1.lt
  refine ⟨rfl, Nat.le_refl _, by unfold maxLen; omega, fun _ => ⟨_, 0, rfl, b2.lt, fun i hi => ?_⟩⟩
  obtain rfl : i = 0 := by have : i < 1 := hi; omega
  refine ⟨fun j hj => ?_, ⟨rfl, Nat.le_refl _, by unfold maxLen; show 1 ≤ _; omega, fun i => by cases i with
    | zero => exact ⟨by show -9223372036854775808 ≤ (20 : Int); omega, by show (20 : Int) ≤ 9223372036854775807; omega⟩
    | succ m => exact ⟨by simp [crashA], by simp [crashA]⟩, fun _ => ⟨_, 0, rfl, b1'.lt, fun i hi => ?_⟩⟩⟩
  · rw [show 0 + 12 * 0 + j = j by omega, (b2.c j hj).1]
    rcases (by omega : j = 0 ∨ j = 1 ∨ j = 2 ∨ j = 3 ∨ j = 4 ∨ j = 5 ∨ j = 6 ∨ j = 7 ∨ j = 8 ∨ j = 9 ∨ j = 10 ∨ j = 11) with rfl | rfl | rfl | rfl | rfl | rfl | rfl | rfl | rfl | rfl | rfl | rfl <;> rfl
  · obtain rfl : i = 0 := by have : i < 1 := hi; omega
    rw [Nat.zero_add, (b1'.c 0 (by decide)).1]
    rfl
set_option maxRecDepth 100000 in
set_option maxHeartbeats 8000000 in
theorem linesBack_walk (s : Int) (a1 : Option Addr) (len1 cap1 : Nat) (zs : List Int) (p : Int) (a3 : Option Addr) (len3 cap3 : Nat) (rs : List RV) (w : World) (hs : (Lit.int .i64 s).wf = true) (hz : IsInts w a1 len1 cap1 zs) (hp : (Lit.int .i64 p).wf = true) (hr : IsRaws w a3 len3 cap3 rs) (hT : ∀ U, Below w.heap.size w U → RdT U) :
    Calls Tryd.prog 5 #[.int .i64 s, .slice a1 len1 cap1, .int .i64 p, .slice a3 len3 cap3] w fun e w' => e = .returned (.bool true) ∧ Below w.heap.size w w' := by
  have bds : -9223372036854775808 ≤ s ∧ s ≤ 9223372036854775807 := by
    simp [Lit.wf, IntKind.min, IntKind.max, IntKind.signed, IntKind.bits] at hs
    omega
  clear hs
  have bdp : -9223372036854775808 ≤ p ∧ p ≤ 9223372036854775807 := by
    simp [Lit.wf, IntKind.min, IntKind.max, IntKind.signed, IntKind.bits] at hp
    omega
  clear hp
  have hCf := Kp.cfg_goodP s p a1 len1 cap1 zs w bds bdp hz
  clear hz
  go_enter Tryd.func5, Tryd.ntmps5
  go_upto_region 2 with (go_at_call 14; refine hCf.mono ?_; rintro e w1 ⟨S, P, g0, nl, cpl, LB, rfl, hG, hb1⟩)
  clear hCf
  obtain ⟨X, eX⟩ : ∃ X : World, X = w1.alloc (.cells #[.int .i64 S, .slice (some ⟨g0, 0, none⟩) nl cpl, .int .i64 P] 24) := ⟨_, rfl⟩
  have cb : BoxN X w1.heap.size 3 [.int .i64 S, .slice (some ⟨g0, 0, none⟩) nl cpl, .int .i64 P] := by rw [eX]; exact boxn_new w1 #[.int .i64 S, .slice (some ⟨g0, 0, none⟩) nl cpl, .int .i64 P] 24 3 rfl
  have bX : Below w1.heap.size w1 X := by rw [eX]; exact (Below.refl _ _).alloc (Nat.le_refl _) _
  rw [← eX]
  clear eX
  have bwX := hb1.trans (bX.mono hb1.size)
  have hc := hG.ok
  have hHc : Hid (cfgFault S LB P = 0 ∧ nl = LB.length) := ⟨hG.ok, hG.nl.out⟩
  obtain ⟨m0, em0⟩ : ∃ m, m = w1.heap.size := ⟨_, rfl⟩
  rw [← em0] at cb ⊢
  have KV : Hid (∀ U, Below X.heap.size X U → (U.cell? ⟨m0, 0, none⟩ = some (.int .i64 S) ∧ U.cell? ⟨m0, 1, none⟩ = some (.slice (some ⟨g0, 0, none⟩) nl cpl) ∧ U.cell? ⟨m0, 2, none⟩ = some (.int .i64 P) ∧ m0 < U.heap.size) ∧ IsLabs U (some ⟨g0, 0, none⟩) nl cpl LB ∧ Below w.heap.size w U) := fun U hU => by
    have h1 := cb.below hU cb.lt
    exact ⟨⟨(h1.c 0 (by decide)).1, (h1.c 1 (by decide)).1, (h1.c 2 (by decide)).1, h1.lt⟩, (hG.labs.below bX).below hU, bwX.trans (hU.mono bwX.size)⟩
  have HTT : Hid (∀ U, Below X.heap.size X U → ∀ Z, Below U.heap.size U Z → RdT Z) := fun U hU Z hZ => hT Z ((KV.out U hU).2.2.trans (hZ.mono (KV.out U hU).2.2.size))
  have HRd : Hid (∀ (U : World) (y : List UInt8), Below X.heap.size X U → y.length ≤ 140737488355328 → Calls Tryd.prog 11 #[.agg #[.int .i64 S, .slice (some ⟨g0, 0, none⟩) nl cpl, .int .i64 P], .string ⟨y.toArray⟩] U fun e w' => ReadTo S LB P y U w' e) := fun U y hU hy => read_any S P (some ⟨g0, 0, none⟩) nl cpl LB y U (KV.out U hU).2.1 hy (HTT.out U hU)
  have HSh : Hid (∀ (U : World) (xa : Option Addr) (n xc : Nat) (xs : List AV), Below X.heap.size X U → IsActs U xa n xc xs → n ≤ 3000 → (∀ x ∈ xs, actFault S LB P x = 0) → Calls Tryd.prog 9 #[.agg #[.int .i64 S, .slice (some ⟨g0, 0, none⟩) nl cpl, .int .i64 P], .slice xa n xc] U fun e w' => e = .returned (.tuple #[.string ⟨(linesOf xs).toArray⟩, .int .i64 0, .int .i64 0]) ∧ Below U.heap.size U w') := fun U xa n xc xs hU hx hn hf => by
    have h := show_any S P (some ⟨g0, 0, none⟩) nl cpl LB xa n xc xs U (KV.out U hU).2.1 hx (fun Z hZ => (HTT.out U hU Z hZ).ln)
    rw [shAll_ok hc (by rw [hx.1]; exact hn) hf] at h
    exact h
  have hAc : Calls Tryd.prog 15 #[.agg #[.int .i64 S, .slice (some ⟨g0, 0, none⟩) nl cpl, .int .i64 P], .slice a3 len3 cap3, .int .i64 30, .bool true] X fun e w' => ∃ (ao : Option Addr) (cp : Nat) (ys : List AV), e = .returned (.slice ao ys.length cp) ∧ (∃ B : Nat, X.heap.size ≤ B ∧ OwnActs w' B (.slice ao ys.length cp) ys) ∧ (∀ y ∈ ys, Fine S nl y) ∧ ys.length ≤ 32 ∧ Below X.heap.size X w' := acts_most S P (some ⟨g0, 0, none⟩) nl cpl a3 len3 cap3 rs X ⟨hG.s1, by have := hG.s3; omega⟩ ⟨hG.n1, hG.n4⟩ (hr.below bwX) 30 (by omega)
  obtain ⟨⟨c0, c1, c2, zc⟩, -, -⟩ := KV.out X (Below.refl _ _)
  clear hr hT bX hb1 cb em0 hc bwX hG
  go_upto_region 3 with (go_at_call 15; refine hAc.mono ?_; rintro e u1 ⟨a2, k2, ys, rfl, ⟨B2, hB2, hO2⟩, hF2, hl2, bu1⟩)
  clear c0 c1 c2 zc hAc
  obtain ⟨⟨c0, c1, c2, zc⟩, -, -⟩ := KV.out u1 bu1
  have hfy : ∀ y ∈ ys, actFault S LB P y = 0 := fun y hy => (hF2 y hy).fault hHc.out.1 hHc.out.2.symm
  have hia := hO2.isActs.2
  have hS1 := HSh.out u1 a2 ys.length k2 ys bu1 hia (by omega) hfy
  have HO2 : Hid (OwnActs u1 B2 (.slice a2 ys.length k2) ys) := hO2
  have HFY : Hid (∀ y ∈ ys, actFault S LB P y = 0 ∧ y.keep.length = y.kl) := fun y hy => ⟨hfy y hy, (ints_of_own (hO2.keeps y hy).1 (hO2.keeps y hy).2).1⟩
  clear hF2 hfy hia hO2 hB2
  obtain ⟨n1, en1⟩ : ∃ n, n = ys.length := ⟨_, rfl⟩
  have HN : Hid (n1 = ys.length) := en1
  rw [← en1] at hS1 hl2 ⊢
  clear en1
  have HL : Hid ((linesOf ys).length ≤ 140737488355328 ∧ rdAll S LB P (linesOf ys) = (ys.map nk, 0, 0)) := by
    have hz := cfg_zero hHc.out.1
    have h1 := linesOf_bd2 (s := S) (ls := LB) (p := P) (by omega) (by omega) ys HFY.out
    have hn := HN.out
    exact ⟨by omega, rdAll_back hHc.out.1 (by omega) HFY.out⟩
  go_upto_region 4 with (go_at_call 9; refine hS1.mono ?_; rintro e u2 ⟨rfl, hu2⟩)
  clear c0 c1 c2 zc hS1
  have b2 := bu1.trans (hu2.mono bu1.size)
  obtain ⟨⟨c0, c1, c2, zc⟩, -, -⟩ := KV.out u2 b2
  have hR := HRd.out u2 (linesOf ys) b2 HL.out.1
  have hR' : Calls Tryd.prog 11 #[.agg #[.int .i64 S, .slice (some ⟨g0, 0, none⟩) nl cpl, .int .i64 P], .string ⟨(linesOf ys).toArray⟩] u2 fun e w' => ∃ (ao : Option Addr) (cp : Nat) (xs : List AV), e = .returned (.tuple #[.slice ao n1 cp, .int .i64 0, .int .i64 0]) ∧ IsActs w' ao n1 cp xs ∧ xs.map nk = ys.map nk ∧ Below u2.heap.size u2 w' := hR.mono fun e w' ⟨ao, cp, xs, he, hO, hxs, hk, hb⟩ => by
    rw [HL.out.2] at he hxs
    have hl : xs.length = n1 := by
      have := congrArg List.length hxs
      simp at this
      rw [HN.out]; exact this
    rw [hl] at he
    have h9 := hO.isActs.2
    rw [hl] at h9
    exact ⟨ao, cp, xs, he, h9, hxs, hb⟩
  clear hR
  have HB2 : Hid (Below X.heap.size X u2 ∧ Below u1.heap.size u1 u2) := ⟨b2, hu2⟩
  obtain ⟨T, eT⟩ : ∃ T : ByteArray, T = ⟨(linesOf ys).toArray⟩ := ⟨_, rfl⟩
  rw [← eT] at hR' ⊢
  clear eT b2 hu2
  go_upto_region 5 with (go_at_call 11; refine hR'.mono ?_; rintro e u3 ⟨a4, k4, xs, rfl, hI4, hX4, hu3⟩)
  clear c0 c1 c2 zc hR'
  have b3 := HB2.out.1.trans (hu3.mono HB2.out.1.size)
  obtain ⟨⟨c0, c1, c2, zc⟩, -, hbw3⟩ := KV.out u3 b3
  have HS3 : Hid (∀ (k q : Nat), k = u3.heap.size → q = u3.heap.size + 1 → Calls Tryd.prog 9 #[.agg #[.int .i64 S, .slice (some ⟨g0, 0, none⟩) nl cpl, .int .i64 P], .slice (some ⟨q, 0, none⟩) 1 1] ((u3.alloc (.cells #[.int .i64 20] 3)).alloc (.cells #[.int .i64 6, .int .i64 0, .int .i64 0, .int .i64 0, .int .i64 0, .slice (some ⟨k, 0, none⟩) 1 1, .int .i64 0, .int .i64 0, .int .i64 0, .int .i64 0, .int .i64 0, .string .empty] 41)) fun e w' => e = .returned (.tuple #[.string ⟨#[99, 114, 97, 115, 104, 32, 48, 32, 50, 48, 10]⟩, .int .i64 0, .int .i64 0]) ∧ Below u3.heap.size u3 w') := fun k q hk hq => by
    have bA : Below u3.heap.size u3 ((u3.alloc (.cells #[.int .i64 20] 3)).alloc (.cells #[.int .i64 6, .int .i64 0, .int .i64 0, .int .i64 0, .int .i64 0, .slice (some ⟨k, 0, none⟩) 1 1, .int .i64 0, .int .i64 0, .int .i64 0, .int .i64 0, .int .i64 0, .string .empty] 41)) := ((Below.refl _ _).alloc (Nat.le_refl _) _).alloc (by simp) _
    refine (HSh.out _ (some ⟨q, 0, none⟩) 1 1 [crashA (some ⟨k, 0, none⟩)] (b3.trans (bA.mono b3.size)) (crash_acts u3 k q hk hq) (by omega) (fun x hx => ?_)).mono fun e w' ⟨he, hb⟩ => ⟨?_, bA.trans (hb.mono bA.size)⟩
    · simp only [List.mem_singleton] at hx
      subst hx
      exact crash_ok _ hHc.out.1
    · rw [he, crash_line]
  have HSm : Hid (∀ U, Below u3.heap.size u3 U → Calls Tryd.prog 16 #[.slice a2 n1 k2, .slice a4 n1 k4] U fun e w' => e = .returned (.bool true) ∧ Below U.heap.size U w') := fun U hU => by
    have h1 := ((HO2.out.below HB2.out.2).below hu3).below hU
    have h2 := h1.isActs.2
    rw [← HN.out] at h2
    exact sameActs_any a2 a4 n1 k2 k4 ys xs U h2 (hI4.below hU) (bare_nk _ _ hX4.symm)
  have HBW : Hid (∀ U, Below u3.heap.size u3 U → Below w.heap.size w U) := fun U hU => hbw3.trans (hU.mono hbw3.size)
  clear hI4 hX4 HO2 HN HL HFY HSh HRd KV HTT hHc HB2 b3 hbw3 hu3
  go_upto_region 6 with (go_at_call 9; refine (HS3.out _ _ rfl (by simp)).mono ?_; rintro e u4 ⟨rfl, hu4⟩)
  have hSm := HSm.out u4 hu4
  have HB4 : Hid (Below u3.heap.size u3 u4) := hu4
  clear c0 c1 c2 zc HS3 HSm hu4
  go_wp2_with (go_at_call 16; refine hSm.mono ?_; rintro e u5 ⟨rfl, hu5⟩; have hbe := HBW.out u5 (HB4.out.trans (hu5.mono HB4.out.size)))
  go_ret
  exact ⟨rfl, hbe⟩
end Go.Proofs.YtlaagfnoepcnlaaDoor.Ln
/- Closed facts of the row of LinesBack, by the kernel. -/
namespace Go.Proofs.YtlaagfnoepcnlaaDoor.linesBackProof
set_option maxRecDepth 100000
theorem c_inPlace : (Rows.linesBackRow.inPlace == Tryd.pinned.checked.prog.inPlace 5) = true := by kernel_rfl
end Go.Proofs.YtlaagfnoepcnlaaDoor.linesBackProof
