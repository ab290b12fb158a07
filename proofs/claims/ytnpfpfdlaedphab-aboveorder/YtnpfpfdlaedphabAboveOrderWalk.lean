/- The walk of the law AboveOrder: at any three raw numbers it returns true and leaves what was in memory. -/
import Derived.Test.YtnpfpfdlaedphabLabAt
import Derived.Deep.QuietTactic
import Derived.BigQuiet
import Derived.Lib.QuietBelow
namespace Go.Proofs.Ytnpfpfdlaedphab
open Go.ChangeShapes Go.WideShapes Go.ChangeAt Go.RowKit
set_option linter.unusedVariables false

theorem aboveOrder_core (a b c xl xc yl yc zl zc : Int) (w : World) (ha : LabAt a xl xc) (hb : LabAt b yl yc) (hc : LabAt c zl zc)
    (xx : abv xl xc xl xc = true) (xy yx yz xz : Bool) (exy : abv xl xc yl yc = xy) (eyx : abv yl yc xl xc = yx) (eyz : abv yl yc zl zc = yz) (exz : abv xl xc zl zc = xz)
    (anti : xy = true → yx = true → xl = yl ∧ xc = yc) (trans : xy = true → yz = true → xz = true) :
    Calls Try.prog 4 #[.int .i64 a, .int .i64 b, .int .i64 c] w fun e w' => e = .returned (.bool true) ∧ Below w.heap.size w w' := by
  cases xy with
  | false =>
    clear anti trans
    have t1 : True := trivial
    have t2 : True := trivial
    have t3 : True := trivial
    have t4 : True := trivial
    go_enter Try.func4, Try.ntmps4
    go_wp2_with (first
        | (go_at_call 12; have _t := t1; refine (ha _).mono ?_; rintro e w1 ⟨rfl, hb1⟩; clear t1; have hB := hb1)
        | (go_at_call 12; have _t := t2; refine (hb _).mono ?_; rintro e w2 ⟨rfl, hb2⟩; clear t2
           have hB := (hB.alloc hb1.size _).trans (hb2.mono (by have := hb1.size; simp; omega))
           have s1 : w1.heap.size < w2.heap.size := by have := hb2.size; simp at this; omega
           obtain ⟨hc2, hf2⟩ := bcell hb2)
        | (go_at_call 12; have _t := t3; refine (hc _).mono ?_; rintro e w3 ⟨rfl, hb3⟩; clear t3
           have hB := (hB.alloc hB.size _).trans (hb3.mono (by have := hB.size; simp; omega))
           have s2 : w2.heap.size < w3.heap.size := by have := hb3.size; simp at this; omega
           have s1 : w1.heap.size < w3.heap.size := by omega
           obtain ⟨hc3, hf3⟩ := bcell hb3)
        | (go_at_call 13; have _t := t4; refine (above_any _ _ _ _ _).mono ?_; rintro e w4 ⟨rfl, hb4⟩; clear t4
           have hB := (hB.alloc hB.size _).trans (hb4.mono (by have := hB.size; simp; omega))
           have s3 : w3.heap.size < w4.heap.size := by have := hb4.size; simp at this; omega
           have s2 : w2.heap.size < w4.heap.size := by omega
           have s1 : w1.heap.size < w4.heap.size := by omega
           obtain ⟨hc4, hf4⟩ := bcell hb4)
        | (go_at_call 13; refine (above_any _ _ _ _ _).mono ?_; rintro e w5 ⟨rfl, hb5⟩
           have hB := hB.trans (hb5.mono (by have := hB.size; omega))
           have s3 : w3.heap.size < w5.heap.size := by have := hb5.size; omega
           have s2 : w2.heap.size < w5.heap.size := by omega
           have s1 : w1.heap.size < w5.heap.size := by omega
           obtain ⟨hc4, hf4⟩ := bcell hb5))
    go_ret
    exact ⟨rfl, hB⟩
  | true =>
    cases yx with
    | false =>
      clear anti
      cases yz with
      | false =>
        clear trans
        have t1 : True := trivial
        have t2 : True := trivial
        have t3 : True := trivial
        have t4 : True := trivial
        go_enter Try.func4, Try.ntmps4
        go_wp2_with (first
            | (go_at_call 12; have _t := t1; refine (ha _).mono ?_; rintro e w1 ⟨rfl, hb1⟩; clear t1; have hB := hb1)
            | (go_at_call 12; have _t := t2; refine (hb _).mono ?_; rintro e w2 ⟨rfl, hb2⟩; clear t2
               have hB := (hB.alloc hb1.size _).trans (hb2.mono (by have := hb1.size; simp; omega))
               have s1 : w1.heap.size < w2.heap.size := by have := hb2.size; simp at this; omega
               obtain ⟨hc2, hf2⟩ := bcell hb2)
            | (go_at_call 12; have _t := t3; refine (hc _).mono ?_; rintro e w3 ⟨rfl, hb3⟩; clear t3
               have hB := (hB.alloc hB.size _).trans (hb3.mono (by have := hB.size; simp; omega))
               have s2 : w2.heap.size < w3.heap.size := by have := hb3.size; simp at this; omega
               have s1 : w1.heap.size < w3.heap.size := by omega
               obtain ⟨hc3, hf3⟩ := bcell hb3)
            | (go_at_call 13; have _t := t4; refine (above_any _ _ _ _ _).mono ?_; rintro e w4 ⟨rfl, hb4⟩; clear t4
               have hB := (hB.alloc hB.size _).trans (hb4.mono (by have := hB.size; simp; omega))
               have s3 : w3.heap.size < w4.heap.size := by have := hb4.size; simp at this; omega
               have s2 : w2.heap.size < w4.heap.size := by omega
               have s1 : w1.heap.size < w4.heap.size := by omega
               obtain ⟨hc4, hf4⟩ := bcell hb4)
            | (go_at_call 13; refine (above_any _ _ _ _ _).mono ?_; rintro e w5 ⟨rfl, hb5⟩
               have hB := hB.trans (hb5.mono (by have := hB.size; omega))
               have s3 : w3.heap.size < w5.heap.size := by have := hb5.size; omega
               have s2 : w2.heap.size < w5.heap.size := by omega
               have s1 : w1.heap.size < w5.heap.size := by omega
               obtain ⟨hc4, hf4⟩ := bcell hb5))
        go_ret
        exact ⟨rfl, hB⟩
      | true =>
        have hxz := trans rfl rfl
        clear trans
        subst hxz
        have t1 : True := trivial
        have t2 : True := trivial
        have t3 : True := trivial
        have t4 : True := trivial
        go_enter Try.func4, Try.ntmps4
        go_wp2_with (first
            | (go_at_call 12; have _t := t1; refine (ha _).mono ?_; rintro e w1 ⟨rfl, hb1⟩; clear t1; have hB := hb1)
            | (go_at_call 12; have _t := t2; refine (hb _).mono ?_; rintro e w2 ⟨rfl, hb2⟩; clear t2
               have hB := (hB.alloc hb1.size _).trans (hb2.mono (by have := hb1.size; simp; omega))
               have s1 : w1.heap.size < w2.heap.size := by have := hb2.size; simp at this; omega
               obtain ⟨hc2, hf2⟩ := bcell hb2)
            | (go_at_call 12; have _t := t3; refine (hc _).mono ?_; rintro e w3 ⟨rfl, hb3⟩; clear t3
               have hB := (hB.alloc hB.size _).trans (hb3.mono (by have := hB.size; simp; omega))
               have s2 : w2.heap.size < w3.heap.size := by have := hb3.size; simp at this; omega
               have s1 : w1.heap.size < w3.heap.size := by omega
               obtain ⟨hc3, hf3⟩ := bcell hb3)
            | (go_at_call 13; have _t := t4; refine (above_any _ _ _ _ _).mono ?_; rintro e w4 ⟨rfl, hb4⟩; clear t4
               have hB := (hB.alloc hB.size _).trans (hb4.mono (by have := hB.size; simp; omega))
               have s3 : w3.heap.size < w4.heap.size := by have := hb4.size; simp at this; omega
               have s2 : w2.heap.size < w4.heap.size := by omega
               have s1 : w1.heap.size < w4.heap.size := by omega
               obtain ⟨hc4, hf4⟩ := bcell hb4)
            | (go_at_call 13; refine (above_any _ _ _ _ _).mono ?_; rintro e w5 ⟨rfl, hb5⟩
               have hB := hB.trans (hb5.mono (by have := hB.size; omega))
               have s3 : w3.heap.size < w5.heap.size := by have := hb5.size; omega
               have s2 : w2.heap.size < w5.heap.size := by omega
               have s1 : w1.heap.size < w5.heap.size := by omega
               obtain ⟨hc4, hf4⟩ := bcell hb5))
        go_ret
        exact ⟨rfl, hB⟩
    | true =>
      obtain ⟨e1, e2⟩ := anti rfl rfl
      clear anti
      subst e1 e2
      cases yz with
      | false =>
        clear trans exz
        have t1 : True := trivial
        have t2 : True := trivial
        have t3 : True := trivial
        have t4 : True := trivial
        go_enter Try.func4, Try.ntmps4
        go_wp2_with (first
            | (go_at_call 12; have _t := t1; refine (ha _).mono ?_; rintro e w1 ⟨rfl, hb1⟩; clear t1; have hB := hb1)
            | (go_at_call 12; have _t := t2; refine (hb _).mono ?_; rintro e w2 ⟨rfl, hb2⟩; clear t2
               have hB := (hB.alloc hb1.size _).trans (hb2.mono (by have := hb1.size; simp; omega))
               have s1 : w1.heap.size < w2.heap.size := by have := hb2.size; simp at this; omega
               obtain ⟨hc2, hf2⟩ := bcell hb2)
            | (go_at_call 12; have _t := t3; refine (hc _).mono ?_; rintro e w3 ⟨rfl, hb3⟩; clear t3
               have hB := (hB.alloc hB.size _).trans (hb3.mono (by have := hB.size; simp; omega))
               have s2 : w2.heap.size < w3.heap.size := by have := hb3.size; simp at this; omega
               have s1 : w1.heap.size < w3.heap.size := by omega
               obtain ⟨hc3, hf3⟩ := bcell hb3)
            | (go_at_call 13; have _t := t4; refine (above_any _ _ _ _ _).mono ?_; rintro e w4 ⟨rfl, hb4⟩; clear t4
               have hB := (hB.alloc hB.size _).trans (hb4.mono (by have := hB.size; simp; omega))
               have s3 : w3.heap.size < w4.heap.size := by have := hb4.size; simp at this; omega
               have s2 : w2.heap.size < w4.heap.size := by omega
               have s1 : w1.heap.size < w4.heap.size := by omega
               obtain ⟨hc4, hf4⟩ := bcell hb4)
            | (go_at_call 13; refine (above_any _ _ _ _ _).mono ?_; rintro e w5 ⟨rfl, hb5⟩
               have hB := hB.trans (hb5.mono (by have := hB.size; omega))
               have s3 : w3.heap.size < w5.heap.size := by have := hb5.size; omega
               have s2 : w2.heap.size < w5.heap.size := by omega
               have s1 : w1.heap.size < w5.heap.size := by omega
               obtain ⟨hc4, hf4⟩ := bcell hb5))
        go_ret
        exact ⟨rfl, hB⟩
      | true =>
        clear trans exz
        have t1 : True := trivial
        have t2 : True := trivial
        have t3 : True := trivial
        have t4 : True := trivial
        go_enter Try.func4, Try.ntmps4
        go_wp2_with (first
            | (go_at_call 12; have _t := t1; refine (ha _).mono ?_; rintro e w1 ⟨rfl, hb1⟩; clear t1; have hB := hb1)
            | (go_at_call 12; have _t := t2; refine (hb _).mono ?_; rintro e w2 ⟨rfl, hb2⟩; clear t2
               have hB := (hB.alloc hb1.size _).trans (hb2.mono (by have := hb1.size; simp; omega))
               have s1 : w1.heap.size < w2.heap.size := by have := hb2.size; simp at this; omega
               obtain ⟨hc2, hf2⟩ := bcell hb2)
            | (go_at_call 12; have _t := t3; refine (hc _).mono ?_; rintro e w3 ⟨rfl, hb3⟩; clear t3
               have hB := (hB.alloc hB.size _).trans (hb3.mono (by have := hB.size; simp; omega))
               have s2 : w2.heap.size < w3.heap.size := by have := hb3.size; simp at this; omega
               have s1 : w1.heap.size < w3.heap.size := by omega
               obtain ⟨hc3, hf3⟩ := bcell hb3)
            | (go_at_call 13; have _t := t4; refine (above_any _ _ _ _ _).mono ?_; rintro e w4 ⟨rfl, hb4⟩; clear t4
               have hB := (hB.alloc hB.size _).trans (hb4.mono (by have := hB.size; simp; omega))
               have s3 : w3.heap.size < w4.heap.size := by have := hb4.size; simp at this; omega
               have s2 : w2.heap.size < w4.heap.size := by omega
               have s1 : w1.heap.size < w4.heap.size := by omega
               obtain ⟨hc4, hf4⟩ := bcell hb4)
            | (go_at_call 13; refine (above_any _ _ _ _ _).mono ?_; rintro e w5 ⟨rfl, hb5⟩
               have hB := hB.trans (hb5.mono (by have := hB.size; omega))
               have s3 : w3.heap.size < w5.heap.size := by have := hb5.size; omega
               have s2 : w2.heap.size < w5.heap.size := by omega
               have s1 : w1.heap.size < w5.heap.size := by omega
               obtain ⟨hc4, hf4⟩ := bcell hb5))
        go_ret
        exact ⟨rfl, hB⟩

theorem aboveOrder_walk (a b c : Int) (w : World) (ha : (Lit.int .i64 a).wf = true) (hb : (Lit.int .i64 b).wf = true) (hc : (Lit.int .i64 c).wf = true) :
    Calls Try.prog 4 #[.int .i64 a, .int .i64 b, .int .i64 c] w fun e w' => e = .returned (.bool true) ∧ Below w.heap.size w w' :=
  aboveOrder_core a b c _ _ _ _ _ _ w (labAt_of ha) (labAt_of hb) (labAt_of hc) (abv_refl (labC_bd a)) _ _ _ _ rfl rfl rfl rfl
    (fun h1 h2 => abv_anti (labC_bd a) (labC_bd b) h1 h2) (fun h1 h2 => abv_trans (labC_bd a) (labC_bd b) (labC_bd c) h1 h2)
end Go.Proofs.Ytnpfpfdlaedphab
