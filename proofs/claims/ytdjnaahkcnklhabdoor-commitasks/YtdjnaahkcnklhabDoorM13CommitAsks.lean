/- Texts of this claim, one behind the other. -/
import Derived.Test.YtdjnaahkcnklhabDoorM12CommitAsks
import Derived.Test.YtdjnaahkcnklhabDoorM8CommitAsks
import Derived.Deep.RegionLaw
import Derived.Deep.DeepCutAuto
import Derived.Deep.RegionHeld3
import Derived.Test.YtdjnaahkcnklhabDoorProg
import Derived.WalkKit
import Derived.ProofKit
import Derived.Below
import Derived.Test.YtdjnaahkcnklhabDoorM5CommitAsks
/- The clerk's drop: the job with that number is taken out. -/
namespace Go.Proofs.YtdjnaahkcnklhabDoor.Co
open Go.ChangeShapes Go.WideShapes Go.ChangeAt Go.RowKit
open Go.Proofs.YtdjnaahkcnklhabDoor.St (BoxN boxn_new own_below grown_setCell IsRow Elem flat flat_append own_isRow idxI idxI_lt own_setk)
set_option linter.unusedVariables false

theorem numbered_asksG (b0 : Nat) (n : Int) (row : Option Nat) (w : World) (c0 : w.cell? ⟨b0, 0, none⟩ = some (.int .i64 n)) (z0 : b0 < w.heap.size) (hr : some b0 ≠ row) : AsksG 69 #[.pointer (some ⟨b0, 0, none⟩)] JbV.val (isN n) row w := by
  refine ⟨enters_of Tryd.func69 (by kernel_rfl) rfl, fun x w' hg => ?_⟩
  have c1 : w'.cell? ⟨b0, 0, none⟩ = some (.int .i64 n) := hg.cell c0 hr
  exact (numbered_asks b0 n w' c1 (Nat.lt_of_lt_of_le z0 hg.size)).2 x w' (Below.refl _ _)
theorem own_blk (a : Option Addr) (n c m d : Nat) : (Value.slice a n c).ownBlock = (Value.slice a m d).ownBlock := by cases a <;> rfl
def kept (n : Int) (js : List JbV) : List JbV := keep (isN n) js
def keptRow (v : CkV) (n : Int) : Rw := ⟨59, 6, .slice v.ja (kept n v.js).length v.jc, (kept n v.js).length, flat JbV.cells (kept n v.js)⟩
theorem Clerk.dropped {w X : World} {B q : Nat} {v : CkV} {ix : List (Nat × Nat)} {more : List Rw} {n : Int} (hj : JobsIn v.js ix more) (hl : v.js.length = v.jl ∧ v.ms.length = v.ml ∧ v.rs.length = v.rl ∧ v.ps.length = v.pl) (h : Held w X B q 12 (v.cells.set 6 (.slice v.ja (kept n v.js).length v.jc)) ((v.rows ++ more).set 0 (keptRow v n))) : ∃ ix', Clerk w X B q { v with jl := (kept n v.js).length, js := kept n v.js } ix' more := by
  obtain ⟨ix', hj'⟩ := hj.keep (isN n)
  exact ⟨ix', ⟨h, hj', rfl, hl.2⟩⟩
set_option maxRecDepth 100000 in
set_option maxHeartbeats 4000000 in
theorem drop_any {w : World} {B q : Nat} {v : CkV} {ix : List (Nat × Nat)} {more : List Rw} (X : World) (h : Clerk w X B q v ix more) (n : Int) :
    Calls Tryd.prog 55 #[.pointer (some ⟨q, 0, none⟩), .int .i64 n] X fun e X' => e = .returned (.tuple #[]) ∧ ∃ ix', Clerk w X' B q { v with jl := (kept n v.js).length, js := kept n v.js } ix' more := by
  have HX : Hid (Clerk w X B q v ix more) := h
  have zq := h.held.box.lt
  have HG : Hid (∀ g, (Value.slice v.ja v.jl v.jc).ownBlock = some g → g < X.heap.size) := fun g eg => (h.jobRow.lt g eg).2
  go_enter Tryd.func55, Tryd.ntmps55
  clear h
  go_upto_region 0 with (fail)
  refine wp_region_inv (by kernel_rfl) [4, 5, 6, 7, 8, 9, 10, 11, 12, 13, 14, 15, 16, 17] (fun L T u => ∃ (b0 : Nat), X.heap.size ≤ u.heap.size ∧ (L 0 = true → T 4 = .pointer (some ⟨q, 0, none⟩)) ∧ (L 1 = true → T 5 = .pointer (some ⟨q, 0, none⟩)) ∧ (L 2 = true → T 6 = .pointer (some ⟨q, 0, none⟩)) ∧ (L 3 = true → T 7 = .pointer (some ⟨q, 5, none⟩)) ∧ (L 4 = true → T 8 = .pointer (some ⟨q, 5, none⟩)) ∧ (L 5 = true → T 9 = .pointer (some ⟨q, 6, none⟩)) ∧ (L 6 = true → T 10 = .slice v.ja v.jl v.jc) ∧ (L 7 = true → T 11 = .int .i64 n) ∧ (L 8 = true → T 12 = .func (.func 69) #[] #[.pointer (some ⟨b0, 0, none⟩)]) ∧ (L 8 = true → L 9 = false → (u.cell? ⟨b0, 0, none⟩ = some (.int .i64 n) ∧ X.heap.size ≤ b0 ∧ b0 < u.heap.size)) ∧ (L 9 = true → T 13 = .slice v.ja (kept n v.js).length v.jc) ∧ (L 10 = true → T 14 = .pointer (some ⟨q, 0, none⟩)) ∧ (L 11 = true → T 15 = .pointer (some ⟨q, 5, none⟩)) ∧ (L 12 = true → T 16 = .pointer (some ⟨q, 5, none⟩)) ∧ (L 13 = true → T 17 = .pointer (some ⟨q, 6, none⟩)) ∧ (L 9 = false → Clerk w u B q v ix more) ∧ (L 9 = true → L 14 = false → Held w u B q 12 v.cells ((v.rows ++ more).set 0 (keptRow v n))) ∧ (L 14 = true → Held w u B q 12 (v.cells.set 6 (.slice v.ja (kept n v.js).length v.jc)) ((v.rows ++ more).set 0 (keptRow v n)))) (by decide) (by kernel_rfl) (by kernel_rfl) ?_ ?_ ?_
  · exact ⟨0, Nat.le_refl _, nofun, nofun, nofun, nofun, nofun, nofun, nofun, nofun, nofun, nofun, nofun, nofun, nofun, nofun, nofun, fun _ => HX.out.below (Below.refl _ _).drew, nofun, nofun⟩
  · refine ⟨?_, ?_, ?_, ?_, ?_, ?_, ?_, ?_, ?_, ?_, ?_, ?_, ?_, ?_, ?_, trivial⟩
    · rintro L T u hd hk hcl ⟨b0, hb, p0, p1, p2, p3, p4, p5, p6, p7, p8, p8w, p9, p10, p11, p12, p13, c1, c2, c3⟩ K hK
      simp only [fr, Act.put, List.setIfInBounds_toArray, List.set_cons_zero, List.set_cons_succ, updO] at hK ⊢
      simp [Region.binds] at hd
      rw [if_pos (by rfl)]
      simp only [Oper.wpv]
      go_simp
      exact hK _ _ ⟨b0, hb, fun _ => rfl, p1, p2, p3, p4, p5, p6, p7, p8, p8w, p9, p10, p11, p12, p13, c1, c2, c3⟩
    · rintro L T u hd hk hcl ⟨b0, hb, p0, p1, p2, p3, p4, p5, p6, p7, p8, p8w, p9, p10, p11, p12, p13, c1, c2, c3⟩ K hK
      simp only [fr, Act.put, List.setIfInBounds_toArray, List.set_cons_zero, List.set_cons_succ, updO] at hK ⊢
      simp [Region.binds] at hd
      rw [if_pos (by rfl)]
      simp only [Oper.wpv]
      go_simp
      exact hK _ _ ⟨b0, hb, p0, fun _ => rfl, p2, p3, p4, p5, p6, p7, p8, p8w, p9, p10, p11, p12, p13, c1, c2, c3⟩
    · rintro L T u hd hk hcl ⟨b0, hb, p0, p1, p2, p3, p4, p5, p6, p7, p8, p8w, p9, p10, p11, p12, p13, c1, c2, c3⟩ K hK
      simp only [fr, Act.put, List.setIfInBounds_toArray, List.set_cons_zero, List.set_cons_succ, updO] at hK ⊢
      simp [Region.binds] at hd
      have g1 := p1 (by simp [hd])
      rw [if_pos (by rfl)]
      simp only [Oper.wpv]
      go_simp
      exact hK _ _ ⟨b0, hb, p0, p1, fun _ => rfl, p3, p4, p5, p6, p7, p8, p8w, p9, p10, p11, p12, p13, c1, c2, c3⟩
    · rintro L T u hd hk hcl ⟨b0, hb, p0, p1, p2, p3, p4, p5, p6, p7, p8, p8w, p9, p10, p11, p12, p13, c1, c2, c3⟩ K hK
      simp only [fr, Act.put, List.setIfInBounds_toArray, List.set_cons_zero, List.set_cons_succ, updO] at hK ⊢
      simp [Region.binds] at hd
      have g2 := p2 (by simp [hd])
      rw [if_pos (by rfl)]
      simp only [Oper.wpv]
      go_simp
      exact hK _ _ ⟨b0, hb, p0, p1, p2, fun _ => rfl, p4, p5, p6, p7, p8, p8w, p9, p10, p11, p12, p13, c1, c2, c3⟩
    · rintro L T u hd hk hcl ⟨b0, hb, p0, p1, p2, p3, p4, p5, p6, p7, p8, p8w, p9, p10, p11, p12, p13, c1, c2, c3⟩ K hK
      simp only [fr, Act.put, List.setIfInBounds_toArray, List.set_cons_zero, List.set_cons_succ, updO] at hK ⊢
      simp [Region.binds] at hd
      have g3 := p3 (by simp [hd])
      rw [if_pos (by rfl)]
      simp only [Oper.wpv]
      go_simp
      exact hK _ _ ⟨b0, hb, p0, p1, p2, p3, fun _ => rfl, p5, p6, p7, p8, p8w, p9, p10, p11, p12, p13, c1, c2, c3⟩
    · rintro L T u hd hk hcl ⟨b0, hb, p0, p1, p2, p3, p4, p5, p6, p7, p8, p8w, p9, p10, p11, p12, p13, c1, c2, c3⟩ K hK
      simp only [fr, Act.put, List.setIfInBounds_toArray, List.set_cons_zero, List.set_cons_succ, updO] at hK ⊢
      simp [Region.binds] at hd
      have g4 := p4 (by simp [hd])
      rw [if_pos (by rfl)]
      simp only [Oper.wpv]
      go_simp
      exact hK _ _ ⟨b0, hb, p0, p1, p2, p3, p4, fun _ => rfl, p6, p7, p8, p8w, p9, p10, p11, p12, p13, c1, c2, c3⟩
    · rintro L T u hd hk hcl ⟨b0, hb, p0, p1, p2, p3, p4, p5, p6, p7, p8, p8w, p9, p10, p11, p12, p13, c1, c2, c3⟩ K hK
      simp only [fr, Act.put, List.setIfInBounds_toArray, List.set_cons_zero, List.set_cons_succ, updO] at hK ⊢
      simp [Region.binds] at hd
      have g5 := p5 (by simp [hd])
      have k9 := hcl 9 _ rfl
      simp [Region.binds] at k9
      have h9 : L 9 = false := by cases h : L 9 with | false => rfl | true => have := k9 h; simp [hk] at this
      have hC := c1 h9
      have x6 : u.cell? ⟨q, 6, none⟩ = some (.slice v.ja v.jl v.jc) := (hC.held.box.c 6 (by decide)).1
      have zx := hC.held.box.lt
      clear hC
      rw [if_pos (by rfl)]
      simp only [Oper.wpv]
      go_simp
      exact hK _ _ ⟨b0, hb, p0, p1, p2, p3, p4, p5, fun _ => rfl, p7, p8, p8w, p9, p10, p11, p12, p13, c1, c2, c3⟩
    · rintro L T u hd hk hcl ⟨b0, hb, p0, p1, p2, p3, p4, p5, p6, p7, p8, p8w, p9, p10, p11, p12, p13, c1, c2, c3⟩ K hK
      simp only [fr, Act.put, List.setIfInBounds_toArray, List.set_cons_zero, List.set_cons_succ, updO] at hK ⊢
      simp [Region.binds] at hd
      rw [if_pos (by rfl)]
      simp only [Oper.wpv]
      go_simp
      exact hK _ _ ⟨b0, hb, p0, p1, p2, p3, p4, p5, p6, fun _ => rfl, p8, p8w, p9, p10, p11, p12, p13, c1, c2, c3⟩
    · rintro L T u hd hk hcl ⟨b0, hb, p0, p1, p2, p3, p4, p5, p6, p7, p8, p8w, p9, p10, p11, p12, p13, c1, c2, c3⟩ K hK
      simp only [fr, Act.put, List.setIfInBounds_toArray, List.set_cons_zero, List.set_cons_succ, updO] at hK ⊢
      simp [Region.binds] at hd
      have g7 := p7 (by simp [hd])
      have k9 := hcl 9 _ rfl
      simp [Region.binds] at k9
      have h9 : L 9 = false := by cases h : L 9 with | false => rfl | true => have := k9 h; simp [hk] at this
      rw [if_pos (by rfl)]
      simp only [Oper.wpv]
      go_simp
      refine (numbered_any n _).mono ?_
      rintro e u1 ⟨b1, rfl, hc0, ⟨hl0, hl1⟩, hg⟩
      exact hK _ _ ⟨b1, (Nat.le_trans hb hg.size), p0, p1, p2, p3, p4, p5, p6, p7, fun _ => rfl, fun _ _ => ⟨hc0, Nat.le_trans hb hl0, hl1⟩, p9, p10, p11, p12, p13, fun h0 => (c1 h0).below hg, fun h0 h1 => (c2 h0 h1).below hg, fun h0 => (c3 h0).below hg⟩
    · rintro L T u hd hk hcl ⟨b0, hb, p0, p1, p2, p3, p4, p5, p6, p7, p8, p8w, p9, p10, p11, p12, p13, c1, c2, c3⟩ K hK
      simp only [fr, Act.put, List.setIfInBounds_toArray, List.set_cons_zero, List.set_cons_succ, updO] at hK ⊢
      simp [Region.binds] at hd
      have g6 := p6 (by simp [hd])
      have g8 := p8 (by simp [hd])
      obtain ⟨hc0, hl0, hl1⟩ := p8w (by simp [hd]) hk
      have hC := c1 hk
      have k14 := hcl 14 _ rfl
      simp [Region.binds] at k14
      rw [if_pos (by rfl)]
      simp only [Oper.wpv]
      go_simp
      refine (deleteJob_any 69 #[.pointer (some ⟨b0, 0, none⟩)] (isN n) B v.ja v.jl v.jc v.js _ hC.jobRow (numbered_asksG b0 n _ _ hc0 hl1 (fun e2 => by have := HG.out _ e2.symm; omega))).mono ?_
      rintro e u1 ⟨rfl, own1, gr1⟩
      have hH := hC.held.grow (i := 0) (r := ⟨59, 6, .slice v.ja v.jl v.jc, v.jl, flat JbV.cells v.js⟩) (r' := keptRow v n) rfl gr1 own1 (Or.inl (own_blk _ _ _ _ _))
      exact hK _ _ ⟨b0, (Nat.le_trans hb gr1.size), p0, p1, p2, p3, p4, p5, p6, p7, p8, fun _ h => Bool.noConfusion (show true = false from h), fun _ => rfl, p10, p11, p12, p13, fun h => Bool.noConfusion (show true = false from h), fun _ _ => hH, fun h => by have := k14 h; simp [hk] at this⟩
    · rintro L T u hd hk hcl ⟨b0, hb, p0, p1, p2, p3, p4, p5, p6, p7, p8, p8w, p9, p10, p11, p12, p13, c1, c2, c3⟩ K hK
      simp only [fr, Act.put, List.setIfInBounds_toArray, List.set_cons_zero, List.set_cons_succ, updO] at hK ⊢
      simp [Region.binds] at hd
      have g0 := p0 (by simp [hd])
      rw [if_pos (by rfl)]
      simp only [Oper.wpv]
      go_simp
      exact hK _ _ ⟨b0, hb, p0, p1, p2, p3, p4, p5, p6, p7, p8, p8w, p9, fun _ => rfl, p11, p12, p13, c1, c2, c3⟩
    · rintro L T u hd hk hcl ⟨b0, hb, p0, p1, p2, p3, p4, p5, p6, p7, p8, p8w, p9, p10, p11, p12, p13, c1, c2, c3⟩ K hK
      simp only [fr, Act.put, List.setIfInBounds_toArray, List.set_cons_zero, List.set_cons_succ, updO] at hK ⊢
      simp [Region.binds] at hd
      have g10 := p10 (by simp [hd])
      rw [if_pos (by rfl)]
      simp only [Oper.wpv]
      go_simp
      exact hK _ _ ⟨b0, hb, p0, p1, p2, p3, p4, p5, p6, p7, p8, p8w, p9, p10, fun _ => rfl, p12, p13, c1, c2, c3⟩
    · rintro L T u hd hk hcl ⟨b0, hb, p0, p1, p2, p3, p4, p5, p6, p7, p8, p8w, p9, p10, p11, p12, p13, c1, c2, c3⟩ K hK
      simp only [fr, Act.put, List.setIfInBounds_toArray, List.set_cons_zero, List.set_cons_succ, updO] at hK ⊢
      simp [Region.binds] at hd
      have g11 := p11 (by simp [hd])
      rw [if_pos (by rfl)]
      simp only [Oper.wpv]
      go_simp
      exact hK _ _ ⟨b0, hb, p0, p1, p2, p3, p4, p5, p6, p7, p8, p8w, p9, p10, p11, fun _ => rfl, p13, c1, c2, c3⟩
    · rintro L T u hd hk hcl ⟨b0, hb, p0, p1, p2, p3, p4, p5, p6, p7, p8, p8w, p9, p10, p11, p12, p13, c1, c2, c3⟩ K hK
      simp only [fr, Act.put, List.setIfInBounds_toArray, List.set_cons_zero, List.set_cons_succ, updO] at hK ⊢
      simp [Region.binds] at hd
      have g12 := p12 (by simp [hd])
      rw [if_pos (by rfl)]
      simp only [Oper.wpv]
      go_simp
      exact hK _ _ ⟨b0, hb, p0, p1, p2, p3, p4, p5, p6, p7, p8, p8w, p9, p10, p11, p12, fun _ => rfl, c1, c2, c3⟩
    · rintro L T u hd hk hcl ⟨b0, hb, p0, p1, p2, p3, p4, p5, p6, p7, p8, p8w, p9, p10, p11, p12, p13, c1, c2, c3⟩ K hK
      simp only [fr, Act.put, List.setIfInBounds_toArray, List.set_cons_zero, List.set_cons_succ, updO] at hK ⊢
      simp [Region.binds] at hd
      have g13 := p13 (by simp [hd])
      have g9 := p9 (by simp [hd])
      have h9 : L 9 = true := by simp [hd]
      have hH := c2 h9 hk
      have x6 : u.cell? ⟨q, 6, none⟩ = some (.slice v.ja v.jl v.jc) := (hH.box.c 6 (by decide)).1
      have y6 := (hH.box.c 6 (by decide)).2
      have zx := hH.box.lt
      rw [if_pos (by rfl)]
      simp only [Oper.wpv]
      go_simp
      exact hK _ _ ⟨b0, (by simpa using hb), p0, p1, p2, p3, p4, p5, p6, p7, p8, fun _ h => absurd (show L 9 = false from h) (by simp [h9]), p9, p10, p11, p12, p13, fun h => absurd (show L 9 = false from h) (by simp [h9]), fun _ h => Bool.noConfusion (show true = false from h), fun _ => hH.tell 6 (by decide) _⟩
  · rintro L T u hl ⟨b0, hb, p0, p1, p2, p3, p4, p5, p6, p7, p8, p8w, p9, p10, p11, p12, p13, c1, c2, c3⟩
    simp only [fr, Act.put, List.setIfInBounds_toArray, List.set_cons_zero, List.set_cons_succ]
    have hH := c3 (hl 14 (by decide))
    have hD := Clerk.dropped (n := n) HX.out.jobs HX.out.lens hH
    clear hH p0 p1 p2 p3 p4 p5 p6 p7 p8 p8w p9 p10 p11 p12 p13 c1 c2 c3
    obtain ⟨ix', hD⟩ := hD
    exact bodyPost_end (v := .tuple #[]) (by simp [results, Tryd.results55, go_sem]) rfl ⟨rfl, ix', hD⟩
end Go.Proofs.YtdjnaahkcnklhabDoor.Co
/- The contracts of the clerk's reply and send. -/
namespace Go.Proofs.YtdjnaahkcnklhabDoor.Co
open Go.ChangeShapes Go.WideShapes Go.ChangeAt Go.RowKit
open Go.Proofs.YtdjnaahkcnklhabDoor.St (BoxN boxn_new own_below grown_setCell IsRow Elem flat flat_append own_isRow)
set_option linter.unusedVariables false

theorem jD {W V : World} (h : Below W.heap.size W V) : Below W.heap.size W V.drew := h.drew
theorem jT {W V U : World} (h : Below W.heap.size W V) (h2 : Below V.heap.size V U) : Below W.heap.size W U := h.trans (h2.mono h.size)
set_option maxRecDepth 100000 in
set_option maxHeartbeats 4000000 in
theorem reply_any {w : World} {B q : Nat} {v : CkV} {ix : List (Nat × Nat)} {more : List Rw} (X : World) (h : Clerk w X B q v ix more) (r : RpV) (hn : (v.pl + 1) * 48 ≤ 140737488355328) :
    Calls Tryd.prog 23 #[.pointer (some ⟨q, 0, none⟩), r.val] X fun e X' => e = .returned (.tuple #[]) ∧ ∃ a5 c5, Clerk w X' B q { v with pa := a5, pl := v.pl + 1, pc := c5, ps := v.ps ++ [⟨v.me, r.kind, r.n, r.key, r.value, r.code⟩] } ix more := by
  obtain ⟨iR, ER⟩ := rpElem
  obtain ⟨site, kind, n, key, value, code⟩ := r
  simp only [RpV.val]
  obtain ⟨U, eU⟩ : ∃ U : World, U = ((X.alloc (.cells #[.int .i64 v.me, .int .i64 kind, .int .i64 n, .int .i64 key, .int .i64 value, .int .i64 code] 50)).alloc (.cells #[.int .i64 v.me, .int .i64 kind, .int .i64 n, .int .i64 key, .int .i64 value, .int .i64 code] 50)).drew := ⟨_, rfl⟩
  have bU : Below X.heap.size X U := by rw [eU]; exact (((Below.refl _ _).alloc (Nat.le_refl _) _).alloc (by simp) _).drew
  have hU := h.below bU
  have hone : IsRow 6 RpV.cells U (some ⟨X.heap.size + 1, 0, none⟩) 1 1 [(⟨v.me, kind, n, key, value, code⟩ : RpV)] := by
    rw [eU]
    have := rowOne (cells := RpV.cells) (k := 6) (X.alloc (.cells #[.int .i64 v.me, .int .i64 kind, .int .i64 n, .int .i64 key, .int .i64 value, .int .i64 code] 50)) #[.int .i64 v.me, .int .i64 kind, .int .i64 n, .int .i64 key, .int .i64 value, .int .i64 code] 50 (⟨v.me, kind, n, key, value, code⟩ : RpV) rfl rfl
    refine St.IsRow.below (w := (X.alloc (.cells #[.int .i64 v.me, .int .i64 kind, .int .i64 n, .int .i64 key, .int .i64 value, .int .i64 code] 50)).alloc (.cells #[.int .i64 v.me, .int .i64 kind, .int .i64 n, .int .i64 key, .int .i64 value, .int .i64 code] 50)) ?_ (Below.refl _ _).drew
    simpa using this
  have ownU := hU.held.own.own 3 ⟨50, 6, .slice v.pa v.pl v.pc, v.pl, flat RpV.cells v.ps⟩ rfl
  simp only [] at ownU
  have hap := hU.held.apart 3 ⟨50, 6, .slice v.pa v.pl v.pc, v.pl, flat RpV.cells v.ps⟩ rfl
  have bx := h.held.box
  have q4 : X.cell? ⟨q, 4, none⟩ = some (.int .i64 v.me) := (bx.c 4 (by decide)).1
  have q9 : X.cell? ⟨q, 9, none⟩ = some (.slice v.pa v.pl v.pc) := (bx.c 9 (by decide)).1
  have zq := bx.lt
  have hB : B ≤ U.heap.size := Nat.le_trans h.held.le (Nat.le_of_lt (Nat.lt_of_lt_of_le zq bU.size))
  have HU : Hid (Clerk w U B q v ix more) := hU
  clear bx hU h
  go_enter Tryd.func23, Tryd.ntmps23
  go_upto_region 2 with (fail)
  go_region_law (rw [← eU]; refine St.step_append_row ER (by rfl) (.tmp 14) (.tmp 16) (by rfl) B (.slice v.pa v.pl v.pc) v.pl v.ps (by rfl) ownU _ 1 1 [(⟨v.me, kind, n, key, value, code⟩ : RpV)] (by rfl) hone (by unfold maxLen; omega) (by omega) hB ?_; intro a5 c5 w5 own5 gr5 at5; have bq := HU.out.held.box.grown gr5 (fun e => hap e.symm); have p9 : w5.cell? ⟨q, 9, none⟩ = some (.slice v.pa v.pl v.pc) := (bq.c 9 (by decide)).1; have pf9 := (bq.c 9 (by decide)).2; have zq5 := bq.lt)
  all_goals
    go_wp2
    exact bodyPost_end (v := .tuple #[]) (by simp [results, Tryd.results23, go_sem]) rfl ⟨rfl, a5, c5, HU.out.rep gr5 own5 at5⟩

theorem txn_any {w : World} {B q : Nat} {v : CkV} {ix : List (Nat × Nat)} {more : List Rw} (X : World) (h : Clerk w X B q v ix more) (n : Int) :
    Calls Tryd.prog 43 #[.pointer (some ⟨q, 0, none⟩), .int .i64 n] X fun e X' => e = .returned (.agg #[.int .i64 v.me, .int .i64 n]) ∧ Below X.heap.size X X' := by
  have bx := h.held.box
  have q4 : X.cell? ⟨q, 4, none⟩ = some (.int .i64 v.me) := (bx.c 4 (by decide)).1
  have zq := bx.lt
  have bA : Below X.heap.size X (X.alloc (.cells #[.int .i64 v.me, .int .i64 n] 44)) := (Below.refl _ _).alloc (Nat.le_refl _) _
  clear bx h
  go_enter Tryd.func43, Tryd.ntmps43
  go_wp2
  refine bodyPost_ret (v := .agg #[.int .i64 v.me, .int .i64 n]) (by simp [results, Tryd.results43, go_sem]) rfl ⟨rfl, ?_⟩
  exact bA
set_option maxRecDepth 100000 in
set_option maxHeartbeats 4000000 in
theorem send_any {w : World} {B q : Nat} {v : CkV} {ix : List (Nat × Nat)} {more : List Rw} (X : World) (h : Clerk w X B q v ix more) (n2 dst2 : Int) (m : MV) (hn : (v.ml + 1) * 96 ≤ 140737488355328) :
    Calls Tryd.prog 49 #[.pointer (some ⟨q, 0, none⟩), .int .i64 n2, .int .i64 dst2, m.val] X fun e X' => e = .returned (.tuple #[]) ∧ ∃ a5 c5, Clerk w X' B q { v with ma := a5, ml := v.ml + 1, mc := c5, ms := v.ms ++ [⟨m.kind, v.me, dst2, v.me, n2, m.label, m.key, m.value, m.version, m.ask, m.yes, m.code⟩] } ix more := by
  obtain ⟨iM, EM⟩ := msElem
  obtain ⟨kind, frm, dst, site, num, label, key, value, version, ask, yes, code⟩ := m
  simp only [MV.val]
  obtain ⟨W, hW⟩ : ∃ W : World, W = X.alloc (.cells #[.int .i64 kind, .int .i64 frm, .int .i64 dst, .int .i64 site, .int .i64 num, .int .i64 label, .int .i64 key, .int .i64 value, .int .i64 version, .int .i64 ask, .bool yes, .int .i64 code] 46) := ⟨_, rfl⟩
  have bW : Below X.heap.size X W := by rw [hW]; exact (Below.refl _ _).alloc (Nat.le_refl _) _
  have bxm : BoxN W X.heap.size 12 [.int .i64 kind, .int .i64 frm, .int .i64 dst, .int .i64 site, .int .i64 num, .int .i64 label, .int .i64 key, .int .i64 value, .int .i64 version, .int .i64 ask, .bool yes, .int .i64 code] := by rw [hW]; exact boxn_new X #[.int .i64 kind, .int .i64 frm, .int .i64 dst, .int .i64 site, .int .i64 num, .int .i64 label, .int .i64 key, .int .i64 value, .int .i64 version, .int .i64 ask, .bool yes, .int .i64 code] 46 12 rfl
  have zW : X.heap.size < W.heap.size := bxm.lt
  have hqX : q < X.heap.size := h.held.box.lt
  have KQ : Hid (∀ U, Below W.heap.size W U → U.cell? ⟨q, 4, none⟩ = some (.int .i64 v.me)) := fun U hU => ((h.below (bW.trans (hU.mono bW.size))).held.box.c 4 (by decide)).1
  have PS : Hid (∀ (U : World) (i : Nat) (x : Value), U.cell? ⟨q, 4, none⟩ = some (.int .i64 v.me) → (U.setCell ⟨X.heap.size, i, none⟩ x).cell? ⟨q, 4, none⟩ = some (.int .i64 v.me)) := fun U i x e => by
    rw [World.cell?_of_block (a := ⟨q, 4, none⟩) (Below.heap_setCell U ⟨X.heap.size, i, none⟩ x q (by simp; omega))]; exact e
  have HTx : Hid (∀ U, Below W.heap.size W U → Calls Tryd.prog 43 #[.pointer (some ⟨q, 0, none⟩), .int .i64 n2] U fun e U' => e = .returned (.agg #[.int .i64 v.me, .int .i64 n2]) ∧ Below U.heap.size U U') := fun U hU => txn_any U (h.below (bW.trans (hU.mono bW.size))) n2
  have HC : Hid (Clerk w X B q v ix more) := h
  have Hm : Hid (BoxN W X.heap.size 12 [.int .i64 kind, .int .i64 frm, .int .i64 dst, .int .i64 site, .int .i64 num, .int .i64 label, .int .i64 key, .int .i64 value, .int .i64 version, .int .i64 ask, .bool yes, .int .i64 code]) := bxm
  clear h bxm
  go_enter Tryd.func49, Tryd.ntmps49
  go_upto_region 1 with (fail)
  rw [← hW]
  clear hW
  go_cut [] (fun wc => BoxN wc X.heap.size 12 [.int .i64 kind, .int .i64 v.me, .int .i64 dst2, .int .i64 v.me, .int .i64 n2, .int .i64 label, .int .i64 key, .int .i64 value, .int .i64 version, .int .i64 ask, .bool yes, .int .i64 code] ∧ Below X.heap.size X wc)
  case first =>
    go_region_held3 (fun U => U.cell? ⟨q, 4, none⟩ = some (.int .i64 v.me))
      (((with_reducible repeat (first | refine PS.out _ _ _ ?_ | (refine KQ.out _ ?_; (repeat (first | exact Below.refl _ _ | exact hu1 | refine jD ?_)); done))); done))
      ((go_at_call 43; refine (HTx.out _ (by (with_reducible repeat (first | exact Below.refl _ _ | refine jD ?_)); done)).mono ?_; rintro e u1 ⟨rfl, hb1⟩; have hu1 : Below W.heap.size W u1 := jT (by (with_reducible repeat (first | exact Below.refl _ _ | refine jD ?_)); done) hb1; have bx1 := Hm.out.below hu1 Hm.out.lt; have zb1 := bx1.lt; have c1 : u1.cell? ⟨X.heap.size, 1, none⟩ = some (.int .i64 frm) := (bx1.c 1 (by decide)).1; have f1 := (bx1.c 1 (by decide)).2; have c2 : u1.cell? ⟨X.heap.size, 2, none⟩ = some (.int .i64 dst) := (bx1.c 2 (by decide)).1; have f2 := (bx1.c 2 (by decide)).2; have c3 : u1.cell? ⟨X.heap.size, 3, none⟩ = some (.int .i64 site) := (bx1.c 3 (by decide)).1; have f3 := (bx1.c 3 (by decide)).2; have c4 : u1.cell? ⟨X.heap.size, 4, none⟩ = some (.int .i64 num) := (bx1.c 4 (by decide)).1; have f4 := (bx1.c 4 (by decide)).2))
    all_goals
      go_wp2_with fail
      go_meet
      case rel => exact ⟨(((bx1.set 1 (by decide) (.int .i64 v.me)).set 2 (by decide) (.int .i64 dst2)).set 3 (by decide) (.int .i64 v.me)).set 4 (by decide) (.int .i64 n2), ((((bW.trans (hu1.mono bW.size)).setCell (p := ⟨X.heap.size, 1, none⟩) (Nat.le_refl _) _).setCell (p := ⟨X.heap.size, 2, none⟩) (Nat.le_refl _) _).setCell (p := ⟨X.heap.size, 3, none⟩) (Nat.le_refl _) _).setCell (p := ⟨X.heap.size, 4, none⟩) (Nat.le_refl _) _⟩
  case rest =>
    obtain ⟨bx, bY⟩ := hcut
    obtain ⟨Y, eY⟩ : ∃ Y, Y = wc := ⟨_, rfl⟩
    rw [← eY] at bx bY ⊢
    clear eY KQ PS HTx Hm
    obtain ⟨U, eU⟩ : ∃ U : World, U = (Y.alloc (.cells #[.int .i64 kind, .int .i64 v.me, .int .i64 dst2, .int .i64 v.me, .int .i64 n2, .int .i64 label, .int .i64 key, .int .i64 value, .int .i64 version, .int .i64 ask, .bool yes, .int .i64 code] 46)).drew := ⟨_, rfl⟩
    have bU : Below Y.heap.size Y U := by rw [eU]; exact ((Below.refl _ _).alloc (Nat.le_refl _) _).drew
    have hY := HC.out.below bY
    have hU := hY.below bU
    have hone : IsRow 12 mcells U (some ⟨Y.heap.size, 0, none⟩) 1 1 [(⟨kind, v.me, dst2, v.me, n2, label, key, value, version, ask, yes, code⟩ : MV)] := by
      rw [eU]
      exact St.IsRow.below (rowOne (cells := mcells) (k := 12) Y #[.int .i64 kind, .int .i64 v.me, .int .i64 dst2, .int .i64 v.me, .int .i64 n2, .int .i64 label, .int .i64 key, .int .i64 value, .int .i64 version, .int .i64 ask, .bool yes, .int .i64 code] 46 (⟨kind, v.me, dst2, v.me, n2, label, key, value, version, ask, yes, code⟩ : MV) rfl rfl) (Below.refl _ _).drew
    have ownU := hU.held.own.own 1 ⟨46, 12, .slice v.ma v.ml v.mc, v.ml, flat mcells v.ms⟩ rfl
    simp only [] at ownU
    have hap := hU.held.apart 1 ⟨46, 12, .slice v.ma v.ml v.mc, v.ml, flat mcells v.ms⟩ rfl
    have bq0 := hY.held.box
    have q7 : Y.cell? ⟨q, 7, none⟩ = some (.slice v.ma v.ml v.mc) := (bq0.c 7 (by decide)).1
    have zq := bq0.lt
    have zm := bx.lt
    have hB : B ≤ U.heap.size := Nat.le_trans hY.held.le (Nat.le_of_lt (Nat.lt_of_lt_of_le zq bU.size))
    have HU : Hid (Clerk w U B q v ix more) := hU
    have x0 : Y.cell? ⟨X.heap.size, 0, none⟩ = some (.int .i64 kind) := (bx.c 0 (by decide)).1
    have x1 : Y.cell? ⟨X.heap.size, 1, none⟩ = some (.int .i64 v.me) := (bx.c 1 (by decide)).1
    have x2 : Y.cell? ⟨X.heap.size, 2, none⟩ = some (.int .i64 dst2) := (bx.c 2 (by decide)).1
    have x3 : Y.cell? ⟨X.heap.size, 3, none⟩ = some (.int .i64 v.me) := (bx.c 3 (by decide)).1
    have x4 : Y.cell? ⟨X.heap.size, 4, none⟩ = some (.int .i64 n2) := (bx.c 4 (by decide)).1
    have x5 : Y.cell? ⟨X.heap.size, 5, none⟩ = some (.int .i64 label) := (bx.c 5 (by decide)).1
    have x6 : Y.cell? ⟨X.heap.size, 6, none⟩ = some (.int .i64 key) := (bx.c 6 (by decide)).1
    have x7 : Y.cell? ⟨X.heap.size, 7, none⟩ = some (.int .i64 value) := (bx.c 7 (by decide)).1
    have x8 : Y.cell? ⟨X.heap.size, 8, none⟩ = some (.int .i64 version) := (bx.c 8 (by decide)).1
    have x9 : Y.cell? ⟨X.heap.size, 9, none⟩ = some (.int .i64 ask) := (bx.c 9 (by decide)).1
    have x10 : Y.cell? ⟨X.heap.size, 10, none⟩ = some (.bool yes) := (bx.c 10 (by decide)).1
    have x11 : Y.cell? ⟨X.heap.size, 11, none⟩ = some (.int .i64 code) := (bx.c 11 (by decide)).1
    clear bx bq0 hU hY HC
    go_upto_region 2 with (fail)
    go_region_law (rw [← eU]; refine St.step_append_row EM (by rfl) (.tmp 24) (.tmp 26) (by rfl) B (.slice v.ma v.ml v.mc) v.ml v.ms (by rfl) ownU _ 1 1 [(⟨kind, v.me, dst2, v.me, n2, label, key, value, version, ask, yes, code⟩ : MV)] (by rfl) hone (by unfold maxLen; omega) (by omega) hB ?_; intro a5 c5 w5 own5 gr5 at5; have bq := HU.out.held.box.grown gr5 (fun e => hap e.symm); have p7 : w5.cell? ⟨q, 7, none⟩ = some (.slice v.ma v.ml v.mc) := (bq.c 7 (by decide)).1; have pf7 := (bq.c 7 (by decide)).2; have zq5 := bq.lt)
    all_goals
      go_wp2
      exact bodyPost_end (v := .tuple #[]) (by simp [results, Tryd.results49, go_sem]) rfl ⟨rfl, a5, c5, HU.out.msg gr5 own5 at5⟩
end Go.Proofs.YtdjnaahkcnklhabDoor.Co
/- Contracts of label.Home: what it returns at every config and key. -/
namespace Go.Proofs.YtdjnaahkcnklhabDoor
open Go.ChangeShapes Go.WideShapes Go.ChangeAt Go.RowKit

def homeErr (s : Int) (ls : List (Int × Int)) (p key : Int) : Int := if cfgFault s ls p = 0 then (if key < 0 ∨ 7 < key then 2 else 0) else cfgFault s ls p
def homeNum (s : Int) (ls : List (Int × Int)) (p key : Int) : Int := if homeErr s ls p key = 0 then key % s else 0

theorem home_bad {s : Int} {ls : List (Int × Int)} {p key : Int} (h : cfgFault s ls p ≠ 0) : homeErr s ls p key = cfgFault s ls p ∧ homeNum s ls p key = 0 := by
  unfold homeNum homeErr
  simp [h]
theorem home_key {s : Int} {ls : List (Int × Int)} {p key : Int} (h : cfgFault s ls p = 0) (hk : key < 0 ∨ 7 < key) : homeErr s ls p key = 2 ∧ homeNum s ls p key = 0 := by
  unfold homeNum homeErr
  simp [h, hk]
theorem home_ok {s : Int} {ls : List (Int × Int)} {p key : Int} (h : cfgFault s ls p = 0) (h0 : 0 ≤ key) (h7 : key ≤ 7) : homeErr s ls p key = 0 ∧ homeNum s ls p key = key % s := by
  have hk : ¬ (key < 0 ∨ 7 < key) := by omega
  unfold homeNum homeErr
  simp [h, hk]

theorem key_any (n : Int) (w : World) :
    Calls Tryd.prog 70 #[.int .i64 n] w fun e w' => e = .returned (.bool (inR n 0 7)) ∧ w' = w := by
  go_enter Tryd.func70, Tryd.ntmps70
  go_wp2_with (go_at_call 18; refine (within_any _ _ _ _).mono ?_; rintro e w1 ⟨rfl, hu1⟩; rw [hu1]; clear hu1)
  go_ret
  exact ⟨rfl, rfl⟩

theorem home_any (s p : Int) (a : Option Addr) (len cap : Nat) (ls : List (Int × Int)) (key : Int) (w : World) (h : IsLabs w a len cap ls) :
    Calls Tryd.prog 73 #[.agg #[.int .i64 s, .slice a len cap, .int .i64 p], .int .i64 key] w fun e w' => e = .returned (.tuple #[.int .i64 (homeNum s ls p key), .int .i64 (homeErr s ls p key)]) ∧ Below w.heap.size w w' := by
  have hA : Below w.heap.size w (w.alloc (.cells #[.int .i64 s, .slice a len cap, .int .i64 p] 25)) := (Below.refl _ _).alloc (Nat.le_refl _) _
  by_cases hF : cfgFault s ls p = 0
  · have hs := cfg_zero hF
    have hs1 := hs.1
    have hs4 := hs.2.1
    by_cases hk : key < 0 ∨ 7 < key
    · have hkk : inR key 0 7 = false := by unfold inR; simp; omega
      rw [(home_key hF hk).1, (home_key hF hk).2]
      rcases hk with hk | hk
      · go_enter Tryd.func73, Tryd.ntmps73
        go_wp2_with (first | (go_at_call 36; refine (check_any s p a len cap ls _ (h.below hA)).mono ?_; rintro e w1 ⟨rfl, hb1⟩) | (go_at_call 70; refine (key_any _ _).mono ?_; rintro e w2 ⟨rfl, hu2⟩; rw [hu2, hkk]; clear hu2))
        go_ret2
        exact ⟨rfl, hA.trans (hb1.mono (by simp))⟩
      · have hk' : ¬ key < 0 := by omega
        have hk8 : 8 ≤ key := by omega
        go_enter Tryd.func73, Tryd.ntmps73
        go_wp2_with (first | (go_at_call 36; refine (check_any s p a len cap ls _ (h.below hA)).mono ?_; rintro e w1 ⟨rfl, hb1⟩) | (go_at_call 70; refine (key_any _ _).mono ?_; rintro e w2 ⟨rfl, hu2⟩; rw [hu2, hkk]; clear hu2))
        go_ret2
        exact ⟨rfl, hA.trans (hb1.mono (by simp))⟩
    · have k0 : 0 ≤ key := by omega
      have k7 : key < 8 := by omega
      have hkk : inR key 0 7 = true := by unfold inR; simp; omega
      rw [(home_ok hF k0 (by omega)).1, (home_ok hF k0 (by omega)).2]
      go_enter Tryd.func73, Tryd.ntmps73
      go_wp2_with (first | (go_at_call 36; refine (check_any s p a len cap ls _ (h.below hA)).mono ?_; rintro e w1 ⟨rfl, hb1⟩; have hz1 : w.heap.size < w1.heap.size := (by have := hb1.size; simp at this; omega); obtain ⟨hc1, hf1⟩ := bcell hb1) | (go_at_call 70; refine (key_any _ _).mono ?_; rintro e w2 ⟨rfl, hu2⟩; rw [hu2, hkk]; clear hu2))
      go_ret2
      exact ⟨rfl, hA.trans (hb1.mono (by simp))⟩
  · rw [(home_bad hF).1, (home_bad hF).2]
    go_enter Tryd.func73, Tryd.ntmps73
    go_wp2_with (go_at_call 36; refine (check_any s p a len cap ls _ (h.below hA)).mono ?_; rintro e w1 ⟨rfl, hb1⟩)
    go_ret2
    exact ⟨rfl, hA.trans (hb1.mono (by simp))⟩

end Go.Proofs.YtdjnaahkcnklhabDoor
