/- The contract of the document's FlyingCopy: the same lists, in memory of its own. -/
import Derived.Test.YtpkbklhjpaaiiaaDoorNSend
namespace Go.Proofs.YtpkbklhjpaaiiaaDoor.Nt
open Go.ChangeShapes Go.WideShapes Go.ChangeAt Go.RowKit
set_option linter.unusedVariables false

/-- A list more, behind all. -/
theorem OwnFly.push {w w1 w2 : World} {B : Nat} {v : Value} {fs : List FL} {f : FL} {a' : Option Addr} {c' : Nat} (h : OwnFly w B v fs) (hb : Below w.heap.size w w1) (hown : w1.ownsRow B 38 12 f.val f.len (flat mcells f.ms)) (hl : f.ms.length = f.len) (hnew : ∀ m, f.val.ownBlock = some m → w.heap.size ≤ m)
    (hrow : w2.ownsRow B 29 1 (.slice a' (fs.length + 1) c') (fs.length + 1) (flat FL.cells (fs ++ [f]))) (hg : w1.grownBy w2 v.ownBlock) : OwnFly w2 B (.slice a' (fs.length + 1) c') (fs ++ [f]) := by
  have h1 := h.below hb
  have get1 : ∀ i, i < fs.length → (fs ++ [f]).getD i default = fs.getD i default := fun i hi => by simp [List.getD, List.getElem?_append_left hi]
  have get2 : (fs ++ [f]).getD fs.length default = f := by simp [List.getD]
  have apr : ∀ {vv : Value} {n : Nat} {xs : List Value}, w1.ownsRow B 38 12 vv n xs → vv.ownBlock = none ∨ vv.ownBlock ≠ v.ownBlock := fun hh => own_apart hh h1.row (Ne.symm tne)
  have oldlt : ∀ i, i < fs.length → ∀ m, (fs.getD i default).val.ownBlock = some m → m < w.heap.size := fun i hi m hm => ((h.each i hi).1.lt m hm).2
  refine ⟨by simpa using hrow, fun i hi => ?_, fun i j hi hj hij => ?_⟩
  · have hi' : i < fs.length + 1 := by simpa using hi
    by_cases e : i = fs.length
    · subst e
      rw [get2]
      exact ⟨hown.kept hg (apr hown), hl⟩
    · rw [get1 i (by omega)]
      have := h1.each i (by omega)
      exact ⟨this.1.kept hg (apr this.1), this.2⟩
  · have hi' : i < fs.length + 1 := by simpa using hi
    have hj' : j < fs.length + 1 := by simpa using hj
    by_cases e : i = fs.length
    · subst e
      rw [get2, get1 j (by omega)]
      cases eb : f.val.ownBlock with
      | none => exact .inl rfl
      | some m =>
        right
        intro e
        have := oldlt j (by omega) m e.symm
        have := hnew m eb
        omega
    · rw [get1 i (by omega)]
      by_cases e2 : j = fs.length
      · subst e2
        rw [get2]
        cases eb : (fs.getD i default).val.ownBlock with
        | none => exact .inl rfl
        | some m =>
          right
          intro e
          have := oldlt i (by omega) m eb
          have := hnew m e.symm
          omega
      · rw [get1 j (by omega)]
        exact h.apart i j (by omega) (by omega) hij
theorem ownFly_nil (w : World) (B : Nat) : OwnFly w B (.slice none 0 0) [] := ⟨World.ownsRow_nil _ _ _ _, fun i hi => absurd hi (by simp), fun i j hi => absurd hi (by simp)⟩
theorem isFl_one (u : World) (f : FL) : IsRow 1 FL.cells (u.alloc (.cells #[.slice f.a f.len f.cap] 29)) (some ⟨u.heap.size, 0, none⟩) 1 1 [f] := by
  refine ⟨rfl, Nat.le_refl _, by unfold maxLen; omega, fun e => by simp at e, fun _ => ⟨u.heap.size, 0, rfl, by simp, fun i hi j hj => ?_⟩⟩
  obtain rfl : i = 0 := by omega
  obtain rfl : j = 0 := by omega
  go_simp
  rfl

set_option maxRecDepth 100000 in
set_option maxHeartbeats 4000000 in
theorem flyingCopy_any (fa : Option Addr) (fl fc : Nat) (fs : List FL) (w : World) (h : IsFly w fa fl fc fs) (hby : fl * 24 ≤ 140737488351232) (hbs : ∀ f ∈ fs, f.len * 96 ≤ 140737488351232) :
    Calls Tryd.prog 8 #[.slice fa fl fc] w fun e w' => ∃ a' c' gs, e = .returned (.slice a' fl c') ∧ OwnFly w' w.heap.size (.slice a' fl c') gs ∧ mss gs = mss fs ∧ Below w.heap.size w w' := by
  obtain ⟨i0, E⟩ := msElem
  obtain ⟨j0, G⟩ := flElem
  have HN : Hid (fs.length = fl) := h.row.1
  have HB : Hid (∀ i, i < fl → (fs.getD i default).len * 96 ≤ 140737488351232) := fun i hi => hbs _ (getD_mem (by rw [HN.out]; exact hi))
  clear hbs
  go_enter Tryd.func8, Tryd.ntmps8
  go_wp2
  go_loopw [3, 4] (fun v i wr => ∃ (a' : Option Addr) (c' : Nat) (gs : List FL), v = .slice a' gs.length c' ∧ i = .int .i64 (gs.length : Int) ∧ gs.length ≤ fl ∧ OwnFly wr w.heap.size (.slice a' gs.length c') gs ∧ Hid (mss gs = (mss fs).take gs.length) ∧ Below w.heap.size w wr) (fun _ i _ => fl - (intOf i).toNat)
  case atStart => exact ⟨none, 0, [], rfl, rfl, Nat.zero_le _, ownFly_nil _ _, rfl, Below.refl _ _⟩
  case round =>
    obtain ⟨a', c', gs, rfl, rfl, hk, hO, hgs, hb⟩ := hrel
    rename World => wo
    by_cases hlt : gs.length < fl
    · have hlt' : (gs.length : Int) < (fl : Int) := by omega
      obtain ⟨b, off, rfl, hbl, hcell, hM⟩ := (h.below hb).at hlt
      have hxb := HB.out _ hlt
      have HTK : Hid (∀ f : FL, f.ms = (fs.getD gs.length default).ms → mss (gs ++ [f]) = (mss fs).take (gs.length + 1)) := fun f hf => by
        have h1 : gs.length < (mss fs).length := by rw [mss_len, HN.out]; exact hlt
        rw [List.take_succ_eq_append_getElem h1, ← hgs.out]
        have : (mss fs)[gs.length] = f.ms := by
          rw [hf, ← mss_at]
          simp [List.getD, h1]
        rw [this]
        simp [mss]
      have KC : Hid (∀ U : World, Below wo.heap.size wo U → U.cell? ⟨b, off + gs.length, none⟩ = some (.slice (fs.getD gs.length default).a (fs.getD gs.length default).len (fs.getD gs.length default).cap) ∧ IsMsgs U (fs.getD gs.length default).a (fs.getD gs.length default).len (fs.getD gs.length default).cap (fs.getD gs.length default).ms) := fun U hU => ⟨(hU.cell (p := ⟨b, off + gs.length, none⟩) hbl).trans hcell, hM.below hU⟩
      obtain ⟨f, ef⟩ : ∃ f, f = fs.getD gs.length default := ⟨_, rfl⟩
      rw [← ef] at hcell hM KC HTK hxb
      clear ef
      obtain ⟨xa, xl, xc, ms⟩ := f
      simp only [] at hcell hM KC HTK hxb
      have HX : Hid (ms.length = xl) := hM.1
      clear hM
      go_upto_region 7 with (fail)
      go_loopw [5, 6] (fun v i wr => ∃ (a5 : Option Addr) (c5 j : Nat), v = .slice a5 j c5 ∧ i = .int .i64 (j : Int) ∧ j ≤ xl ∧ wr.ownsRow wo.heap.size 38 12 (.slice a5 j c5) j (flat mcells (ms.take j)) ∧ Below wo.heap.size wo wr) (fun _ i _ => xl - (intOf i).toNat)
      case atStart => exact ⟨none, 0, 0, rfl, rfl, Nat.zero_le _, World.ownsRow_nil _ _ _ _, Below.refl _ _⟩
      case round =>
        obtain ⟨a5, c5, j, rfl, rfl, hj, hown, hq⟩ := hrel
        obtain ⟨hcq, hMq⟩ := KC.out _ hq
        by_cases hjl : j < xl
        · have hjl' : (j : Int) < (xl : Int) := by omega
          obtain ⟨b2, off2, rfl, hlb2, hc⟩ := hMq.2.2.2.2 (by omega)
          have hcells := hc j hjl
          have HT : Hid (ms.take (j + 1) = ms.take j ++ [ms.getD j default]) := by
            show _ = _
            have : j < ms.length := by rw [HX.out]; exact hjl
            rw [List.take_succ_eq_append_getElem this]
            simp [List.getD, this]
          obtain ⟨m, em⟩ : ∃ m, m = ms.getD j default := ⟨_, rfl⟩
          rw [← em] at hcells HT
          clear em hc hMq
          obtain ⟨kind, frm, dst, site, num, label, key, value, version, ask, yes, code⟩ := m
          have a0 := hcells 0 (by decide)
          have a1 := hcells 1 (by decide)
          have a2 := hcells 2 (by decide)
          have a3 := hcells 3 (by decide)
          have a4 := hcells 4 (by decide)
          have a5' := hcells 5 (by decide)
          have a6 := hcells 6 (by decide)
          have a7 := hcells 7 (by decide)
          have a8 := hcells 8 (by decide)
          have a9 := hcells 9 (by decide)
          have a10 := hcells 10 (by decide)
          have a11 := hcells 11 (by decide)
          simp only [mcells, List.getElem?_cons_zero, List.getElem?_cons_succ, Nat.add_zero] at a0 a1 a2 a3 a4 a5' a6 a7 a8 a9 a10 a11
          clear hcells
          have zq := hq.size
          go_upto_region 8 with (at_builtin; go_loud (refine wpList_append_row E (by rfl) _ _ (by rfl) wo.heap.size (.slice a5 j c5) j (ms.take j) (by rfl) (own_below hown ((Below.refl _ _).alloc (Nat.le_refl _) _)) _ 1 1 [⟨kind, frm, dst, site, num, label, key, value, version, ask, yes, code⟩] (by rfl) (isMs_one _ _ _ _ _ _ _ _ _ _ _ _ _) (by unfold maxLen; omega) (by omega) (by simp; omega) ?_; intro a6 c6 w6 own6 gr6 at6))
          go_wp2
          go_roundw
          case rel =>
            refine ⟨a6, c6, j + 1, rfl, by go_num, by omega, ?_, ?_⟩
            · rw [HT.out]; exact own6
            · exact (hq.alloc hq.size _).grown gr6 (by simp; omega) (fun m hm => (hown.lt m hm).1)
          case measure => simp [intOf]; omega
        · obtain rfl : j = xl := by omega
          have hfl : Below w.heap.size w wr := hb.trans (hq.mono hb.size)
          have zw := hb.size
          have zq := hq.size
          have HTAKE : Hid (ms.take j = ms) := List.take_of_length_le (by rw [HX.out]; exact Nat.le_refl _)
          rw [HTAKE.out] at hown
          go_upto_region 4 with (at_builtin; go_loud (refine wpList_append_row G (by rfl) _ _ (by rfl) w.heap.size (.slice a' gs.length c') gs.length gs (by rfl) (own_below (hO.below hq).row ((Below.refl _ _).alloc (Nat.le_refl _) _)) _ 1 1 [⟨a5, j, c5, ms⟩] (by rfl) (isFl_one _ _) (by unfold maxLen; omega) (by omega) (by simp; omega) ?_; intro a7 c7 w7 own7 gr7 at7))
          have hO7 := hO.push (f := ⟨a5, j, c5, ms⟩) (hq.alloc hq.size (.cells #[.slice a5 j c5] 29)) (own_base (own_below hown ((Below.refl _ _).alloc (Nat.le_refl _) _)) zw) HX.out (fun m hm => (hown.lt m hm).1) own7 gr7
          have hb7 : Below w.heap.size w w7 := (hfl.alloc hfl.size _).grown gr7 (by simp; omega) (fun m hm => (hO.row.lt m hm).1)
          have HM7 := HTK.out ⟨a5, j, c5, ms⟩ rfl
          obtain ⟨gs', egs⟩ : ∃ gs', gs' = gs ++ [(⟨a5, j, c5, ms⟩ : FL)] := ⟨_, rfl⟩
          have elz : Hid (gs'.length = gs.length + 1) := by show _ = _; rw [egs]; simp
          rw [← egs] at hO7 HM7
          clear egs
          go_wp2
          go_roundw
          case rel =>
            refine ⟨a7, c7, gs', by rw [elz.out], by rw [elz.out]; go_num, by rw [elz.out]; omega, by rw [elz.out]; exact hO7, ?_, hb7⟩
            show _ = _
            rw [elz.out]
            exact HM7
          case measure => simp [intOf]; omega
    · obtain rfl : fl = gs.length := by omega
      go_wp2
      go_ret
      refine ⟨a', c', gs, rfl, hO, ?_, hb⟩
      rw [hgs.out]
      exact List.take_of_length_le (by rw [mss_len, HN.out]; exact Nat.le_refl _)
end Go.Proofs.YtpkbklhjpaaiiaaDoor.Nt
