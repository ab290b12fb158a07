/- Texts of this claim, one behind the other. -/
import Derived.Test.YtekglahigjblkaaGreatDoorM34RecoverRebuilds
import Derived.Test.YtekglahigjblkaaGreatDoorM35RecoverRebuilds
import Derived.Test.YtekglahigjblkaaGreatDoorA30RecoverRebuilds
import Derived.Test.YtekglahigjblkaaGreatDoorM12RecoverRebuilds
import Derived.Deep.RegionLaw
import Derived.Test.YtekglahigjblkaaGreatDoorM4RecoverRebuilds
import Derived.Deep.Cut
import Derived.Lib.QuietBelow
/- What the document's RebuiltOf holds in its loop: a store and a desk in boxes, notes in a row. -/
namespace Go.Proofs.YtekglahigjblkaaGreatDoor.Rb
open Go.ChangeShapes Go.WideShapes Go.ChangeAt Go.RowKit
open Go.Proofs.YtekglahigjblkaaGreatDoor.St Go.Proofs.YtekglahigjblkaaGreatDoor.Co Go.Proofs.YtekglahigjblkaaGreatDoor.Pt
set_option linter.unusedVariables false

theorem own_apartR {w : World} {b b' : Nat} {e e' : TypeId} {size size' : Nat} {v v' : Value} {n n' : Nat} {xs xs' : List Value} (h : w.ownsRow b e size v n xs) (h' : w.ownsRow b' e' size' v' n' xs') (hne : e ≠ e') : v.ownBlock = none ∨ v.ownBlock ≠ v'.ownBlock := by
  rcases h.2 with ⟨rfl, _⟩ | ⟨g, cap, cur, rfl, _, hg, _⟩
  · exact .inl rfl
  · right
    intro he
    rcases h'.2 with ⟨rfl, _⟩ | ⟨g', cap', cur', rfl, _, hg', _⟩
    · simp [Value.ownBlock] at he
    · simp [Value.ownBlock] at he
      subst he
      rw [hg] at hg'
      simp at hg'
      exact hne hg'.2
structure RS (B : Nat) (u : World) (s : SV) (next : Int) (ja : Option Addr) (jc : Nat) (js : List JbV) (na : Option Addr) (nc : Nat) (ns : List NV) : Prop where
  bs : BoxN u B 4 [.slice s.ia s.il s.ic, .slice s.la s.ll s.lc, .slice s.da s.dl s.dc, .slice s.oa s.ol s.oc]
  bd : BoxN u (B + 1) 2 [.int .i64 next, .slice ja js.length jc]
  st : OwnStore u (B + 2) s
  jb : JobsMem u (B + 2) ja js.length jc js
  nt : u.ownsRow (B + 2) 59 4 (.slice na ns.length nc) ns.length (flat NV.cells ns)
section
variable {B : Nat} {u v : World} {s : SV} {next : Int} {ja : Option Addr} {jc : Nat} {js : List JbV} {na : Option Addr} {nc : Nat} {ns : List NV}
theorem RS.below (h : RS B u s next ja jc js na nc ns) (hb : Below u.heap.size u v) : RS B v s next ja jc js na nc ns :=
  ⟨h.bs.below hb h.bs.lt, h.bd.below hb h.bd.lt, h.st.below hb, h.jb.below hb, own_below h.nt hb⟩
theorem own_aside {te : TypeId} {k : Nat} {x : Value} {n C d i : Nat} {xs : List Value} {y : Value} (h : u.ownsRow C te k x n xs) (hd : d < C) : (u.setCell ⟨d, i, none⟩ y).ownsRow C te k x n xs :=
  ownsRow_setCell_other h (fun e => by have h9 : C ≤ d := (h.lt _ e).1; omega) y
/-- Another store. -/
theorem RS.putS (h : RS B u s next ja jc js na nc ns) {r : SV} (hr : OwnStore u (B + 2) r) : RS B ((((u.setCell ⟨B, 0, none⟩ (.slice r.ia r.il r.ic)).setCell ⟨B, 1, none⟩ (.slice r.la r.ll r.lc)).setCell ⟨B, 2, none⟩ (.slice r.da r.dl r.dc)).setCell ⟨B, 3, none⟩ (.slice r.oa r.ol r.oc)) r next ja jc js na nc ns :=
  ⟨(((h.bs.set 0 (by decide) _).set 1 (by decide) _).set 2 (by decide) _).set 3 (by decide) _, (((h.bd.far (by omega)).far (by omega)).far (by omega)).far (by omega),
   (((hr.asideS (by omega) _ _).asideS (by omega) _ _).asideS (by omega) _ _).asideS (by omega) _ _, (((h.jb.aside (by omega) _ _).aside (by omega) _ _).aside (by omega) _ _).aside (by omega) _ _,
   own_aside (own_aside (own_aside (own_aside h.nt (by omega)) (by omega)) (by omega)) (by omega)⟩
theorem RS.putNext (h : RS B u s next ja jc js na nc ns) (m : Int) : RS B (u.setCell ⟨B + 1, 0, none⟩ (.int .i64 m)) s m ja jc js na nc ns :=
  ⟨h.bs.far (by omega), h.bd.set 0 (by decide) _, h.st.asideS (by omega) _ _, h.jb.aside (by omega) _ _, own_aside h.nt (by omega)⟩
theorem RS.putJobs (h : RS B u s next ja jc js na nc ns) {ja' : Option Addr} {n' jc' : Nat} {js' : List JbV} (hn : n' = js'.length) (hj : JobsMem u (B + 2) ja' n' jc' js') : RS B (u.setCell ⟨B + 1, 1, none⟩ (.slice ja' n' jc')) s next ja' jc' js' na nc ns := by
  subst hn
  exact ⟨h.bs.far (by omega), h.bd.set 1 (by decide) _, h.st.asideS (by omega) _ _, hj.aside (by omega) _ _, own_aside h.nt (by omega)⟩
theorem own_kept {te te2 : TypeId} {k k2 : Nat} {x y : Value} {n n2 C C2 : Nat} {xs ys : List Value} {z : World} (h : u.ownsRow C te k x n xs) (h2 : u.ownsRow C2 te2 k2 y n2 ys) (hne : te ≠ te2) (hg : u.grownBy z y.ownBlock) : z.ownsRow C te k x n xs := h.kept hg (own_apartR h h2 hne)
theorem box_kept {b n C te k : Nat} {vs : List Value} {y : Value} {m : Nat} {ys : List Value} {z : World} (h : BoxN u b n vs) (h2 : u.ownsRow C te k y m ys) (hb : b < C) (hg : u.grownBy z y.ownBlock) : BoxN z b n vs :=
  h.grown hg (fun e => by have := (h2.lt _ e.symm).1; omega)
/-- The notes' row changes or grows. -/
theorem RS.notes (h : RS B u s next ja jc js na nc ns) {z : World} {na' : Option Addr} {nc' : Nat} {ns' : List NV} (hg : u.grownBy z (Value.slice na ns.length nc).ownBlock) (hn : z.ownsRow (B + 2) 59 4 (.slice na' ns'.length nc') ns'.length (flat NV.cells ns')) : RS B z s next ja jc js na' nc' ns' := by
  have k : ∀ {te : TypeId} {k : Nat} {x : Value} {n : Nat} {xs : List Value}, u.ownsRow (B + 2) te k x n xs → te ≠ 59 → z.ownsRow (B + 2) te k x n xs := fun hx hne => own_kept hx h.nt hne hg
  exact ⟨box_kept h.bs h.nt (by omega) hg, box_kept h.bd h.nt (by omega) hg,
    ⟨k h.st.items (by decide), k h.st.locks (by decide), k h.st.doubts (by decide), k h.st.over (by decide), h.st.ap_il, h.st.ap_id, h.st.ap_io, h.st.ap_ld, h.st.ap_lo, h.st.ap_do⟩,
    ⟨k h.jb.own (by decide), h.jb.len, h.jb.bare, fun j hj => ⟨k (h.jb.ask j hj).1 (by decide), (h.jb.ask j hj).2⟩⟩, hn⟩
end
theorem rows_apart {w : World} {C te te2 k k2 : Nat} {x y : Value} {n m : Nat} {xs ys : List Value} {D : Nat} (h : w.ownsRow C te k x n xs) (h2 : w.ownsRow D te2 k2 y m ys) (hne : te ≠ te2) : Apart x y := by
  intro q h3 h4
  rcases own_apartR h h2 hne with e | e
  · rw [e] at h3; cases h3
  · exact e (by rw [h3, h4])
/-- Jobs in another row. -/
theorem jobsMem_of {w : World} {B : Nat} {a : Option Addr} {n c : Nat} {js : List JbV} (h : w.ownsRow B 64 6 (.slice a n c) n (flat JbV.cells js)) (hl : js.length = n) (hb : ∀ j ∈ js, j.ta = none ∧ j.tl = 0 ∧ j.tc = 0 ∧ j.tasks = []) (ha : ∀ j ∈ js, w.ownsRow B 3 1 (.slice j.aa j.al j.ac) j.al (flat inCell j.asked) ∧ j.asked.length = j.al) : JobsMem w B a n c js :=
  ⟨h, hl, hb, fun j hj => ⟨(ha j hj).1, (ha j hj).2, rows_apart h (ha j hj).1 (by decide)⟩⟩
/-- One more record: store, desk and notes. -/
theorem state_snoc {me : Int} {P : List RcP} {k : Nat} (hk : k < P.length) : P.take (k + 1) = P.take k ++ [P.getD k ⟨0, 0, 0, 0, 0, 0, false, []⟩] := by
  rw [List.take_succ_eq_append_getElem hk]
  simp [List.getD, hk]
end Go.Proofs.YtekglahigjblkaaGreatDoor.Rb
/- The contract of the document's StoreCopy: the same, in memory of its own. -/
namespace Go.Proofs.YtekglahigjblkaaGreatDoor.St
open Go.ChangeShapes Go.WideShapes Go.ChangeAt Go.RowKit
set_option linter.unusedVariables false

/-- What a result's box is told does not touch what was made behind it. -/
theorem out_box {w W U : World} {n : Nat} {r : SV} (zle : n + 1 < W.heap.size) (hB : Below n w W) (h : OwnStore U W.heap.size r) (hb : Below W.heap.size W U) (p0 p1 p2 p3 : Value) :
    OwnStore ((((U.setCell ⟨n + 1, 0, none⟩ p0).setCell ⟨n + 1, 1, none⟩ p1).setCell ⟨n + 1, 2, none⟩ p2).setCell ⟨n + 1, 3, none⟩ p3) n r ∧ Below n w ((((U.setCell ⟨n + 1, 0, none⟩ p0).setCell ⟨n + 1, 1, none⟩ p1).setCell ⟨n + 1, 2, none⟩ p2).setCell ⟨n + 1, 3, none⟩ p3) := by
  refine ⟨OwnStore.base (B := W.heap.size) ((((h.box (p := ⟨n + 1, 0, none⟩) zle p0).box (p := ⟨n + 1, 1, none⟩) zle p1).box (p := ⟨n + 1, 2, none⟩) zle p2).box (p := ⟨n + 1, 3, none⟩) zle p3) (by omega), ?_⟩
  refine Below.setCell (Below.setCell (Below.setCell (Below.setCell (hB.trans (hb.mono (by omega))) ?_ _) ?_ _) ?_ _) ?_ _
  all_goals exact Nat.le_succ _

set_option maxRecDepth 100000 in
set_option maxHeartbeats 8000000 in
theorem storeCopy_any (s : SV) (w : World) (h : IsStore w s) (h1 : s.il * 24 ≤ 140737488351232) (h2 : s.ll * 48 ≤ 140737488351232) (h3 : s.dl * 24 ≤ 140737488351232) (h4 : s.ol * 16 ≤ 140737488351232) :
    Calls Tryz.prog 38 #[s.val] w fun e w' => ∃ r : SV, e = .returned r.val ∧ s.same r ∧ OwnStore w' w.heap.size r ∧ Below w.heap.size w w' := by
  obtain ⟨i1, E1⟩ := itElem
  obtain ⟨i2, E2⟩ := lkElem
  obtain ⟨i3, E3⟩ := dbElem
  obtain ⟨i4, E4⟩ := txElem
  have HI : Hid (s.items.length = s.il) := h.items.1
  have HL : Hid (s.locks.length = s.ll) := h.locks.1
  have HD : Hid (s.doubts.length = s.dl) := h.doubts.1
  have HO : Hid (s.over.length = s.ol) := h.over.1
  have mx1 := h.items.2.1
  have mx1' := h.items.2.2.1
  have mx2 := h.locks.2.1
  have mx2' := h.locks.2.2.1
  have mx3 := h.doubts.2.1
  have mx3' := h.doubts.2.2.1
  have mx4 := h.over.2.1
  have mx4' := h.over.2.2.1
  unfold maxLen at mx1' mx2' mx3' mx4'
  obtain ⟨ia, il, ic, la, ll, lc, da, dl, dc, oa, ol, oc, items, locks, doubts, over⟩ := s
  simp only [SV.val] at *
  obtain ⟨W, hW⟩ : ∃ W : World, W = ((w.alloc (.cells #[.slice ia il ic, .slice la ll lc, .slice da dl dc, .slice oa ol oc] 31)).alloc (.cells #[.slice none 0 0, .slice none 0 0, .slice none 0 0, .slice none 0 0] 31)) := ⟨_, rfl⟩
  have hB : Below w.heap.size w W := by rw [hW]; exact ((Below.refl _ _).alloc (Nat.le_refl _) _).alloc (by simp) _
  have hz : W.heap.size = w.heap.size + 2 := by rw [hW]; simp
  have HZ : Hid (W.heap.size = w.heap.size + 2) := hz
  have zle : w.heap.size + 1 < W.heap.size := by omega
  have z0 : w.heap.size < W.heap.size := by omega
  have hS := h.below hB
  have HS : Hid (∀ U, Below W.heap.size W U → IsStore U ⟨ia, il, ic, la, ll, lc, da, dl, dc, oa, ol, oc, items, locks, doubts, over⟩) := fun U hU => hS.below hU
  have d0 : W.cell? ⟨w.heap.size, 0, none⟩ = some (.slice ia il ic) := by rw [hW]; go_simp
  have d1 : W.cell? ⟨w.heap.size, 1, none⟩ = some (.slice la ll lc) := by rw [hW]; go_simp
  have d2 : W.cell? ⟨w.heap.size, 2, none⟩ = some (.slice da dl dc) := by rw [hW]; go_simp
  have d3 : W.cell? ⟨w.heap.size, 3, none⟩ = some (.slice oa ol oc) := by rw [hW]; go_simp
  have KD : Hid (∀ U : World, Below W.heap.size W U → U.cell? ⟨w.heap.size, 0, none⟩ = some (.slice ia il ic) ∧ U.cell? ⟨w.heap.size, 1, none⟩ = some (.slice la ll lc) ∧ U.cell? ⟨w.heap.size, 2, none⟩ = some (.slice da dl dc) ∧ U.cell? ⟨w.heap.size, 3, none⟩ = some (.slice oa ol oc)) := fun U hU =>
    ⟨(hU.cell (p := ⟨w.heap.size, 0, none⟩) z0).trans d0, (hU.cell (p := ⟨w.heap.size, 1, none⟩) z0).trans d1, (hU.cell (p := ⟨w.heap.size, 2, none⟩) z0).trans d2, (hU.cell (p := ⟨w.heap.size, 3, none⟩) z0).trans d3⟩
  have RB : BoxN W (w.heap.size + 1) 4 [.slice none 0 0, .slice none 0 0, .slice none 0 0, .slice none 0 0] := by
    rw [hW]
    have := boxn_new (w.alloc (.cells #[.slice ia il ic, .slice la ll lc, .slice da dl dc, .slice oa ol oc] 31)) #[.slice none 0 0, .slice none 0 0, .slice none 0 0, .slice none 0 0] 31 4 rfl
    simpa using this
  have HRB : Hid (∀ U, Below W.heap.size W U → BoxN U (w.heap.size + 1) 4 [.slice none 0 0, .slice none 0 0, .slice none 0 0, .slice none 0 0]) := fun U hU => RB.below hU zle
  obtain ⟨X, hX⟩ : ∃ X : World, X = W.alloc (.cells #[.slice none 0 0, .slice none 0 0, .slice none 0 0, .slice none 0 0] 31) := ⟨_, rfl⟩
  have hM0 : Made W X W.heap.size W.heap.size SV.nil := by
    have hb1 : Below W.heap.size W X := by rw [hX]; exact (Below.refl _ _).alloc (Nat.le_refl _) _
    refine Made.new (ownStore_nil W _) (Below.refl _ _) hb1 (Nat.le_refl _) ?_ (Nat.le_refl _)
    rw [hX]
    exact boxn_new W #[.slice none 0 0, .slice none 0 0, .slice none 0 0, .slice none 0 0] 31 4 rfl
  clear hS d0 d1 d2 d3 h mx1 mx2 mx3 mx4 RB
  go_enter Tryz.func38, Tryz.ntmps38
  go_upto_region 1 with (fail)
  rw [← hW]
  clear hW
  rw [show w.heap.size + 2 = W.heap.size from hz.symm] at *
  clear hz
  go_upto_region 2 with (fail)
  rw [← hX]
  clear hX
  go_wp2
  go_loopw [4] (fun i wr => ∃ (k : Nat) (a : Option Addr) (c : Nat), i = .int .i64 (k : Int) ∧ k ≤ il ∧ Made W wr W.heap.size W.heap.size ⟨a, k, c, none, 0, 0, none, 0, 0, none, 0, 0, (items.take k), [], [], []⟩) (fun i _ => il - (intOf i).toNat)
  case atStart => exact ⟨0, none, 0, rfl, Nat.zero_le _, hM0⟩
  case round =>
    obtain ⟨k, a, c, rfl, hk, hM⟩ := hrel
    obtain ⟨mz, x0, x1, x2, x3, f0, f1, f2, f3⟩ := hM.cells
    simp only [] at x0 x1 x2 x3
    obtain ⟨d0, d1, d2, d3⟩ := KD.out _ hM.bel
    by_cases hlt : k < il
    · have hlt' : (k : Int) < (il : Int) := by omega
      obtain ⟨b, off, rfl, zb, hc⟩ := (HS.out _ hM.bel).items.2.2.2.2 (by show 0 < il; omega)
      have hcells := hc k hlt
      have HT : Hid (items.take (k + 1) = items.take k ++ [items.getD k default]) := take_at (by rw [HI.out]; exact hlt)
      simp only [] at hcells
      obtain ⟨x, ex⟩ : ∃ x, x = items.getD k default := ⟨_, rfl⟩
      rw [← ex] at hcells HT
      clear ex hc
      obtain ⟨q0, q1, q2⟩ := x
      have e0 := hcells 0 (by decide)
      have e1 := hcells 1 (by decide)
      have e2 := hcells 2 (by decide)
      simp only [ItV.cells, List.getElem?_cons_zero, List.getElem?_cons_succ, Nat.add_zero] at e0 e1 e2
      clear hcells
      have zM := hM.bel.size
      go_upto_region 5 with (fail)
      go_region_law (first | (refine step_append_row E1 (by rfl) (.tmp 17) (.tmp 23) (by rfl) W.heap.size (.slice a k c) k (items.take k) (by rfl) (own_below hM.own.items (by (with_reducible repeat (first | exact Below.refl _ _ | refine nD ?_ | refine nA ?_ _)); done)) _ 1 1 [⟨q0, q1, q2⟩] (by rfl) (isOne _ _ _ _ rfl rfl) (by unfold maxLen; omega) (by omega) (by simp; omega) ?_; intro a5 c5 w5 own5 gr5 at5; obtain ⟨cl5, fz5, hM5⟩ := hM.put_items (by (with_reducible repeat (first | exact Below.refl _ _ | refine nD ?_ | refine nA ?_ _)); done) gr5 own5 at5; have z5 := hM5.box.lt; simp only [] at cl5))
      all_goals
        go_wp2
        go_roundw
        case rel => exact ⟨k + 1, a5, c5, by go_num, by omega, by rw [HT.out]; exact hM5⟩
        case measure => simp [intOf]; omega
    · obtain rfl : il = k := by omega
      rw [List.take_of_length_le (by rw [HI.out]; exact Nat.le_refl _)] at hM
      have hM1 := hM
      go_wp2
      clear x0 x1 x2 x3 f0 f1 f2 f3 d0 d1 d2 d3 mz hM
      obtain ⟨a0, ea0⟩ : ∃ a0, a0 = a := ⟨_, rfl⟩
      obtain ⟨c0, ec0⟩ : ∃ c0, c0 = c := ⟨_, rfl⟩
      rw [← ea0, ← ec0] at hM1
      clear ea0 ec0 hk
      go_loopw [5] (fun i wr => ∃ (k : Nat) (a : Option Addr) (c : Nat), i = .int .i64 (k : Int) ∧ k ≤ ll ∧ Made W wr W.heap.size W.heap.size ⟨a0, il, c0, a, k, c, none, 0, 0, none, 0, 0, items, (locks.take k), [], []⟩) (fun i _ => ll - (intOf i).toNat)
      case atStart => exact ⟨0, none, 0, rfl, Nat.zero_le _, hM1⟩
      case round =>
        obtain ⟨k, a, c, rfl, hk, hM⟩ := hrel
        obtain ⟨mz, x0, x1, x2, x3, f0, f1, f2, f3⟩ := hM.cells
        simp only [] at x0 x1 x2 x3
        obtain ⟨d0, d1, d2, d3⟩ := KD.out _ hM.bel
        by_cases hlt : k < ll
        · have hlt' : (k : Int) < (ll : Int) := by omega
          obtain ⟨b, off, rfl, zb, hc⟩ := (HS.out _ hM.bel).locks.2.2.2.2 (by show 0 < ll; omega)
          have hcells := hc k hlt
          have HT : Hid (locks.take (k + 1) = locks.take k ++ [locks.getD k default]) := take_at (by rw [HL.out]; exact hlt)
          simp only [] at hcells
          obtain ⟨x, ex⟩ : ∃ x, x = locks.getD k default := ⟨_, rfl⟩
          rw [← ex] at hcells HT
          clear ex hc
          obtain ⟨⟨q0, q1⟩, q2, q3, q4, q5⟩ := x
          have e0 := hcells 0 (by decide)
          have e1 := hcells 1 (by decide)
          have e2 := hcells 2 (by decide)
          have e3 := hcells 3 (by decide)
          have e4 := hcells 4 (by decide)
          have e5 := hcells 5 (by decide)
          simp only [LkV.cells, List.getElem?_cons_zero, List.getElem?_cons_succ, Nat.add_zero] at e0 e1 e2 e3 e4 e5
          clear hcells
          have zM := hM.bel.size
          go_upto_region 9 with (fail)
          go_region_law (first | (refine step_append_row E2 (by rfl) (.tmp 34) (.tmp 40) (by rfl) W.heap.size (.slice a k c) k (locks.take k) (by rfl) (own_below hM.own.locks (by (with_reducible repeat (first | exact Below.refl _ _ | refine nD ?_ | refine nA ?_ _)); done)) _ 1 1 [⟨(q0, q1), q2, q3, q4, q5⟩] (by rfl) (isOne _ _ _ _ rfl rfl) (by unfold maxLen; omega) (by omega) (by simp; omega) ?_; intro a5 c5 w5 own5 gr5 at5; obtain ⟨cl5, fz5, hM5⟩ := hM.put_locks (by (with_reducible repeat (first | exact Below.refl _ _ | refine nD ?_ | refine nA ?_ _)); done) gr5 own5 at5; have z5 := hM5.box.lt; simp only [] at cl5))
          all_goals
            go_wp2
            go_roundw
            case rel => exact ⟨k + 1, a5, c5, by go_num, by omega, by rw [HT.out]; exact hM5⟩
            case measure => simp [intOf]; omega
        · obtain rfl : ll = k := by omega
          rw [List.take_of_length_le (by rw [HL.out]; exact Nat.le_refl _)] at hM
          have hM2 := hM
          go_wp2
          clear x0 x1 x2 x3 f0 f1 f2 f3 d0 d1 d2 d3 mz hM
          obtain ⟨a1, ea1⟩ : ∃ a1, a1 = a := ⟨_, rfl⟩
          obtain ⟨c1, ec1⟩ : ∃ c1, c1 = c := ⟨_, rfl⟩
          rw [← ea1, ← ec1] at hM2
          clear ea1 ec1 hk
          go_loopw [6] (fun i wr => ∃ (k : Nat) (a : Option Addr) (c : Nat), i = .int .i64 (k : Int) ∧ k ≤ dl ∧ Made W wr W.heap.size W.heap.size ⟨a0, il, c0, a1, ll, c1, a, k, c, none, 0, 0, items, locks, (doubts.take k), []⟩) (fun i _ => dl - (intOf i).toNat)
          case atStart => exact ⟨0, none, 0, rfl, Nat.zero_le _, hM2⟩
          case round =>
            obtain ⟨k, a, c, rfl, hk, hM⟩ := hrel
            obtain ⟨mz, x0, x1, x2, x3, f0, f1, f2, f3⟩ := hM.cells
            simp only [] at x0 x1 x2 x3
            obtain ⟨d0, d1, d2, d3⟩ := KD.out _ hM.bel
            by_cases hlt : k < dl
            · have hlt' : (k : Int) < (dl : Int) := by omega
              obtain ⟨b, off, rfl, zb, hc⟩ := (HS.out _ hM.bel).doubts.2.2.2.2 (by show 0 < dl; omega)
              have hcells := hc k hlt
              have HT : Hid (doubts.take (k + 1) = doubts.take k ++ [doubts.getD k default]) := take_at (by rw [HD.out]; exact hlt)
              simp only [] at hcells
              obtain ⟨x, ex⟩ : ∃ x, x = doubts.getD k default := ⟨_, rfl⟩
              rw [← ex] at hcells HT
              clear ex hc
              obtain ⟨⟨q0, q1⟩, q2⟩ := x
              have e0 := hcells 0 (by decide)
              have e1 := hcells 1 (by decide)
              have e2 := hcells 2 (by decide)
              simp only [DbV.cells, List.getElem?_cons_zero, List.getElem?_cons_succ, Nat.add_zero] at e0 e1 e2
              clear hcells
              have zM := hM.bel.size
              go_upto_region 13 with (fail)
              go_region_law (first | (refine step_append_row E3 (by rfl) (.tmp 51) (.tmp 57) (by rfl) W.heap.size (.slice a k c) k (doubts.take k) (by rfl) (own_below hM.own.doubts (by (with_reducible repeat (first | exact Below.refl _ _ | refine nD ?_ | refine nA ?_ _)); done)) _ 1 1 [⟨(q0, q1), q2⟩] (by rfl) (isOne _ _ _ _ rfl rfl) (by unfold maxLen; omega) (by omega) (by simp; omega) ?_; intro a5 c5 w5 own5 gr5 at5; obtain ⟨cl5, fz5, hM5⟩ := hM.put_doubts (by (with_reducible repeat (first | exact Below.refl _ _ | refine nD ?_ | refine nA ?_ _)); done) gr5 own5 at5; have z5 := hM5.box.lt; simp only [] at cl5))
              all_goals
                go_wp2
                go_roundw
                case rel => exact ⟨k + 1, a5, c5, by go_num, by omega, by rw [HT.out]; exact hM5⟩
                case measure => simp [intOf]; omega
            · obtain rfl : dl = k := by omega
              rw [List.take_of_length_le (by rw [HD.out]; exact Nat.le_refl _)] at hM
              have hM3 := hM
              go_wp2
              clear x0 x1 x2 x3 f0 f1 f2 f3 d0 d1 d2 d3 mz hM
              obtain ⟨a2, ea2⟩ : ∃ a2, a2 = a := ⟨_, rfl⟩
              obtain ⟨c2, ec2⟩ : ∃ c2, c2 = c := ⟨_, rfl⟩
              rw [← ea2, ← ec2] at hM3
              clear ea2 ec2 hk
              go_loopw [7] (fun i wr => ∃ (k : Nat) (a : Option Addr) (c : Nat), i = .int .i64 (k : Int) ∧ k ≤ ol ∧ Made W wr W.heap.size W.heap.size ⟨a0, il, c0, a1, ll, c1, a2, dl, c2, a, k, c, items, locks, doubts, (over.take k)⟩) (fun i _ => ol - (intOf i).toNat)
              case atStart => exact ⟨0, none, 0, rfl, Nat.zero_le _, hM3⟩
              case round =>
                obtain ⟨k, a, c, rfl, hk, hM⟩ := hrel
                obtain ⟨mz, x0, x1, x2, x3, f0, f1, f2, f3⟩ := hM.cells
                simp only [] at x0 x1 x2 x3
                obtain ⟨d0, d1, d2, d3⟩ := KD.out _ hM.bel
                by_cases hlt : k < ol
                · have hlt' : (k : Int) < (ol : Int) := by omega
                  obtain ⟨b, off, rfl, zb, hc⟩ := (HS.out _ hM.bel).over.2.2.2.2 (by show 0 < ol; omega)
                  have hcells := hc k hlt
                  have HT : Hid (over.take (k + 1) = over.take k ++ [over.getD k default]) := take_at (by rw [HO.out]; exact hlt)
                  simp only [] at hcells
                  obtain ⟨x, ex⟩ : ∃ x, x = over.getD k default := ⟨_, rfl⟩
                  rw [← ex] at hcells HT
                  clear ex hc
                  obtain ⟨q0, q1⟩ := x
                  have e0 := hcells 0 (by decide)
                  have e1 := hcells 1 (by decide)
                  simp only [txCells, List.getElem?_cons_zero, List.getElem?_cons_succ, Nat.add_zero] at e0 e1
                  clear hcells
                  have zM := hM.bel.size
                  go_upto_region 17 with (fail)
                  go_region_law (first | (refine step_append_row E4 (by rfl) (.tmp 68) (.tmp 74) (by rfl) W.heap.size (.slice a k c) k (over.take k) (by rfl) (own_below hM.own.over (by (with_reducible repeat (first | exact Below.refl _ _ | refine nD ?_ | refine nA ?_ _)); done)) _ 1 1 [(q0, q1)] (by rfl) (isOne _ _ _ _ rfl rfl) (by unfold maxLen; omega) (by omega) (by simp; omega) ?_; intro a5 c5 w5 own5 gr5 at5; obtain ⟨cl5, fz5, hM5⟩ := hM.put_over (by (with_reducible repeat (first | exact Below.refl _ _ | refine nD ?_ | refine nA ?_ _)); done) gr5 own5 at5; have z5 := hM5.box.lt; simp only [] at cl5))
                  all_goals
                    go_wp2
                    go_roundw
                    case rel => exact ⟨k + 1, a5, c5, by go_num, by omega, by rw [HT.out]; exact hM5⟩
                    case measure => simp [intOf]; omega
                · obtain rfl : ol = k := by omega
                  rw [List.take_of_length_le (by rw [HO.out]; exact Nat.le_refl _)] at hM
                  have hM4 := hM
                  skip
                  have rb := HRB.out _ hM4.bel
                  have r0 := (rb.c 0 (by decide)).1
                  have g0 := (rb.c 0 (by decide)).2
                  have z0 := (hM4.box.c 0 (by decide)).1
                  have r1 := (rb.c 1 (by decide)).1
                  have g1 := (rb.c 1 (by decide)).2
                  have z1 := (hM4.box.c 1 (by decide)).1
                  have r2 := (rb.c 2 (by decide)).1
                  have g2 := (rb.c 2 (by decide)).2
                  have z2 := (hM4.box.c 2 (by decide)).1
                  have r3 := (rb.c 3 (by decide)).1
                  have g3 := (rb.c 3 (by decide)).2
                  have z3 := (hM4.box.c 3 (by decide)).1
                  simp only [SV.box, List.getD_cons_zero, List.getD_cons_succ] at r0 r1 r2 r3 z0 z1 z2 z3
                  have mz := hM4.box.lt
                  have rz := rb.lt
                  go_wp2
                  refine bodyPost_ret (v := .agg #[.slice a0 il c0, .slice a1 ll c1, .slice a2 dl c2, .slice a ol c]) (by simp [results, Tryz.results38, go_sem, r0, r1, r2, r3]) rfl ?_
                  obtain ⟨t1, t2⟩ := out_box zle hB hM4.own hM4.bel (.slice a0 il c0) (.slice a1 ll c1) (.slice a2 dl c2) (.slice a ol c)
                  exact ⟨⟨a0, il, c0, a1, ll, c1, a2, dl, c2, a, ol, c, items, locks, doubts, over⟩, rfl, ⟨rfl, rfl, rfl, rfl, rfl, rfl, rfl, rfl⟩, t1, t2⟩
end Go.Proofs.YtekglahigjblkaaGreatDoor.St
/- Contracts of the document's small functions: In, plainTxn, doubtOf, isOver. -/
namespace Go.Proofs.YtekglahigjblkaaGreatDoor.St
open Go.ChangeShapes Go.WideShapes Go.ChangeAt Go.RowKit
set_option linter.unusedVariables false

theorem in_any (n lo hi : Int) (w : World) :
    Calls Tryz.prog 14 #[.int .i64 n, .int .i64 lo, .int .i64 hi] w fun e w' => e = .returned (.bool (inR n lo hi)) ∧ w' = w := by
  go_enter Tryz.func14, Tryz.ntmps14
  go_wp2
  all_goals go_ret
  all_goals exact ⟨ret_bool (by unfold inR; rw [Bool.eq_iff_iff]; simp; omega), rfl⟩
theorem in_below (n lo hi : Int) (w : World) :
    Calls Tryz.prog 14 #[.int .i64 n, .int .i64 lo, .int .i64 hi] w fun e w' => e = .returned (.bool (inR n lo hi)) ∧ Below w.heap.size w w' :=
  (in_any n lo hi w).mono fun e u hu => ⟨hu.1, by rw [hu.2]; exact Below.refl _ _⟩
theorem plainTxn_any (t : Int × Int) (w : World) :
    Calls Tryz.prog 57 #[.agg #[.int .i64 t.1, .int .i64 t.2]] w fun e w' => e = .returned (.bool (txOK t)) ∧ Below w.heap.size w w' := by
  obtain ⟨site, num⟩ := t
  have hA : Below w.heap.size w (w.alloc (.cells #[.int .i64 site, .int .i64 num] 51)) := (Below.refl _ _).alloc (Nat.le_refl _) _
  unfold txOK
  cases hr : inR site 0 3 with
  | false =>
    go_enter Tryz.func57, Tryz.ntmps57
    go_wp2_with (go_at_call 14; refine (in_any _ _ _ _).mono ?_; rintro e w1 ⟨rfl, hu1⟩; rw [hu1]; clear hu1)
    go_ret
    exact ⟨by simp, hA⟩
  | true =>
    go_enter Tryz.func57, Tryz.ntmps57
    go_wp2_with (go_at_call 14; refine (in_any _ _ _ _).mono ?_; rintro e w1 ⟨rfl, hu1⟩; rw [hu1]; clear hu1)
    go_ret
    exact ⟨by simp, hA⟩

set_option maxHeartbeats 2000000 in
theorem doubtOf_ref (s : SV) (t : Int × Int) (w : World) (h : IsDoubts w s.da s.dl s.dc s.doubts) :
    Calls Tryz.prog 39 #[s.val, .agg #[.int .i64 t.1, .int .i64 t.2]] w fun e w' => e = .returned (.int .i64 (idxI (dbT t) s.doubts)) ∧ Below w.heap.size w w' := by
  obtain ⟨ia, il, ic, la, ll, lc, da, dl, dc, oa, ol, oc, items, locks, doubts, over⟩ := s
  obtain ⟨ts, tn⟩ := t
  simp only [SV.val] at *
  obtain ⟨hlen, hcap, hmax, _, hmem⟩ := h
  have HL : Hid (doubts.length = dl) := hlen
  clear hlen
  unfold maxLen at hmax
  obtain ⟨W, hW⟩ : ∃ W : World, W = (w.alloc (.cells #[.slice ia il ic, .slice la ll lc, .slice da dl dc, .slice oa ol oc] 31)).alloc (.cells #[.int .i64 ts, .int .i64 tn] 51) := ⟨_, rfl⟩
  have hB : Below w.heap.size w W := by rw [hW]; exact ((Below.refl _ _).alloc (Nat.le_refl _) _).alloc (by simp) _
  have zW : W.heap.size = w.heap.size + 2 := by rw [hW]; simp
  have c2 : W.cell? ⟨w.heap.size, 2, none⟩ = some (.slice da dl dc) := by rw [hW]; go_simp
  have d0 : W.cell? ⟨w.heap.size + 1, 0, none⟩ = some (.int .i64 ts) := by rw [hW]; go_simp
  have d1 : W.cell? ⟨w.heap.size + 1, 1, none⟩ = some (.int .i64 tn) := by rw [hW]; go_simp
  have z0 : w.heap.size < W.heap.size := by omega
  have z1 : w.heap.size + 1 < W.heap.size := by omega
  clear zW
  go_enter Tryz.func39, Tryz.ntmps39
  go_wp2
  rw [← hW]
  clear hW
  go_loopw [5] (fun s5 wr => ∃ (k : Nat), k ≤ dl ∧ s5 = .int .i64 k ∧ (∀ i, i < k → dbT (ts, tn) (doubts.getD i default) = false) ∧ Below W.heap.size W wr) (fun s5 _ => dl - (intOf s5).toNat)
  case atStart => exact ⟨0, Nat.zero_le _, rfl, fun i hi => absurd hi (by omega), Below.refl _ _⟩
  case round =>
    obtain ⟨k, hk, rfl, hnot, hb⟩ := hrel
    have hwr := hB.trans (hb.mono hB.size)
    have x2 := (hb.cell (p := ⟨w.heap.size, 2, none⟩) z0).trans c2
    have y0 := (hb.cell (p := ⟨w.heap.size + 1, 0, none⟩) z1).trans d0
    have y1 := (hb.cell (p := ⟨w.heap.size + 1, 1, none⟩) z1).trans d1
    by_cases hlt : k < dl
    · have hlt' : (k : Int) < (dl : Int) := by omega
      obtain ⟨b, off, rfl, zb, hc⟩ := hmem (by omega)
      have hcells := hc k hlt
      have hhit := idxI_hit (p := dbT (ts, tn)) (l := doubts) (k := k) (by have := HL.out; omega) hnot
      have hnot' : dbT (ts, tn) (doubts.getD k default) = false → ∀ i, i < k + 1 → dbT (ts, tn) (doubts.getD i default) = false := fun hf i hi => by
        by_cases e : i = k
        · rw [e]; exact hf
        · exact hnot i (by omega)
      obtain ⟨x, ex⟩ : ∃ x, x = doubts.getD k default := ⟨_, rfl⟩
      rw [← ex] at hcells hhit hnot'
      clear ex
      obtain ⟨⟨site, num⟩, age⟩ := x
      have a0 := hcells 0 (by decide)
      have a1 := hcells 1 (by decide)
      simp [DbV.cells] at a0 a1
      rw [← hwr.cell (p := ⟨b, off + k * 3, none⟩) zb] at a0
      rw [← hwr.cell (p := ⟨b, off + k * 3 + 1, none⟩) zb] at a1
      clear hcells hc
      by_cases e1 : site = ts
      · by_cases e2 : num = tn
        · subst e1 e2
          have hh := hhit (by simp [dbT])
          clear hhit hnot'
          go_wp2
          go_quiet (fail)
          go_wp2
          go_ret
          exact ⟨by rw [hh]; rfl, below_drewN hwr nq⟩
        · have hh := hnot' (by simp [dbT]; intro _ e; exact e2 e)
          have e3 : (num == tn) = false := by simpa using e2
          clear hhit hnot'
          subst e1
          go_wp2
          go_quiet (fail)
          go_wp2
          go_roundw
          case rel => exact ⟨k + 1, by omega, by go_num, hh, below_drewN hb nq⟩
          case measure => simp [intOf]; omega
      · have hh := hnot' (by simp [dbT]; intro e; exact absurd e e1)
        have e3 : (site == ts) = false := by simpa using e1
        clear hhit hnot'
        go_wp2
        go_quiet (fail)
        go_wp2
        go_roundw
        case rel => exact ⟨k + 1, by omega, by go_num, hh, below_drewN hb nq⟩
        case measure => simp [intOf]; omega
    · have hfin : idxI (dbT (ts, tn)) doubts = -1 := idxI_none (fun i hi => hnot i (by have := HL.out; omega))
      go_wp2
      go_ret
      exact ⟨by rw [hfin]; rfl, hwr⟩

set_option maxHeartbeats 2000000 in
theorem isOver_ref (s : SV) (t : Int × Int) (w : World) (h : IsTxns w s.oa s.ol s.oc s.over) :
    Calls Tryz.prog 36 #[s.val, .agg #[.int .i64 t.1, .int .i64 t.2]] w fun e w' => e = .returned (.bool (decide (t ∈ s.over))) ∧ Below w.heap.size w w' := by
  obtain ⟨ia, il, ic, la, ll, lc, da, dl, dc, oa, ol, oc, items, locks, doubts, over⟩ := s
  obtain ⟨ts, tn⟩ := t
  simp only [SV.val] at *
  obtain ⟨hlen, hcap, hmax, _, hmem⟩ := h
  have HL : Hid (over.length = ol) := hlen
  clear hlen
  unfold maxLen at hmax
  obtain ⟨W, hW⟩ : ∃ W : World, W = (w.alloc (.cells #[.slice ia il ic, .slice la ll lc, .slice da dl dc, .slice oa ol oc] 31)).alloc (.cells #[.int .i64 ts, .int .i64 tn] 51) := ⟨_, rfl⟩
  have hB : Below w.heap.size w W := by rw [hW]; exact ((Below.refl _ _).alloc (Nat.le_refl _) _).alloc (by simp) _
  have zW : W.heap.size = w.heap.size + 2 := by rw [hW]; simp
  have c3 : W.cell? ⟨w.heap.size, 3, none⟩ = some (.slice oa ol oc) := by rw [hW]; go_simp
  have d0 : W.cell? ⟨w.heap.size + 1, 0, none⟩ = some (.int .i64 ts) := by rw [hW]; go_simp
  have d1 : W.cell? ⟨w.heap.size + 1, 1, none⟩ = some (.int .i64 tn) := by rw [hW]; go_simp
  have z0 : w.heap.size < W.heap.size := by omega
  have z1 : w.heap.size + 1 < W.heap.size := by omega
  clear zW
  go_enter Tryz.func36, Tryz.ntmps36
  go_wp2
  rw [← hW]
  clear hW
  go_loopw [5] (fun s5 wr => ∃ (k : Nat), k ≤ ol ∧ s5 = .int .i64 k ∧ (∀ i, i < k → over.getD i default ≠ (ts, tn)) ∧ Below W.heap.size W wr) (fun s5 _ => ol - (intOf s5).toNat)
  case atStart => exact ⟨0, Nat.zero_le _, rfl, fun i hi => absurd hi (by omega), Below.refl _ _⟩
  case round =>
    obtain ⟨k, hk, rfl, hnot, hb⟩ := hrel
    have hwr := hB.trans (hb.mono hB.size)
    have x2 := (hb.cell (p := ⟨w.heap.size, 3, none⟩) z0).trans c3
    have y0 := (hb.cell (p := ⟨w.heap.size + 1, 0, none⟩) z1).trans d0
    have y1 := (hb.cell (p := ⟨w.heap.size + 1, 1, none⟩) z1).trans d1
    by_cases hlt : k < ol
    · have hlt' : (k : Int) < (ol : Int) := by omega
      obtain ⟨b, off, rfl, zb, hc⟩ := hmem (by omega)
      have hcells := hc k hlt
      have hkl : k < over.length := by have := HL.out; omega
      have hmm : over.getD k default ∈ over := by simp [List.getD, hkl]
      have hnot' : over.getD k default ≠ (ts, tn) → ∀ i, i < k + 1 → over.getD i default ≠ (ts, tn) := fun hf i hi => by
        by_cases e : i = k
        · rw [e]; exact hf
        · exact hnot i (by omega)
      obtain ⟨x, ex⟩ : ∃ x, x = over.getD k default := ⟨_, rfl⟩
      rw [← ex] at hcells hmm hnot'
      clear ex
      obtain ⟨site, num⟩ := x
      have a0 := hcells 0 (by decide)
      have a1 := hcells 1 (by decide)
      simp [txCells] at a0 a1
      rw [← hwr.cell (p := ⟨b, off + k * 2, none⟩) zb] at a0
      rw [← hwr.cell (p := ⟨b, off + k * 2 + 1, none⟩) zb] at a1
      clear hcells hc
      by_cases e1 : site = ts
      · by_cases e2 : num = tn
        · subst e1 e2
          clear hnot'
          go_wp2
          go_quiet (fail)
          go_wp2
          go_ret
          exact ⟨by simp [hmm], below_drewN hwr nq⟩
        · have hh := hnot' (by simp; intro _ e; exact e2 e)
          have e3 : (num == tn) = false := by simpa using e2
          clear hnot'
          subst e1
          go_wp2
          go_quiet (fail)
          go_wp2
          go_roundw
          case rel => exact ⟨k + 1, by omega, by go_num, hh, below_drewN hb nq⟩
          case measure => simp [intOf]; omega
      · have hh := hnot' (by simp; intro e; exact absurd e e1)
        have e3 : (site == ts) = false := by simpa using e1
        clear hnot'
        go_wp2
        go_quiet (fail)
        go_wp2
        go_roundw
        case rel => exact ⟨k + 1, by omega, by go_num, hh, below_drewN hb nq⟩
        case measure => simp [intOf]; omega
    · have hfin : (ts, tn) ∉ over := fun hm => by
        obtain ⟨i, hi, e⟩ := List.getElem_of_mem hm
        exact hnot i (by have := HL.out; omega) (by simp [List.getD, hi, e])
      go_wp2
      go_ret
      exact ⟨by simp [hfin], hwr⟩
end Go.Proofs.YtekglahigjblkaaGreatDoor.St
