/- Texts of this claim, one behind the other. -/
import Derived.Test.YtlaagfnoepcnlaaDoorM20LinesJoin
import Derived.Test.YtlaagfnoepcnlaaDoorM12LinesJoin
import Derived.Test.YtlaagfnoepcnlaaDoorM11LinesJoin
import Derived.Test.YtlaagfnoepcnlaaDoorM17LinesJoin
import Derived.Test.YtlaagfnoepcnlaaDoorRows
import Derived.JoinedOf
import Derived.KernelRfl
/- The walk of the law LinesJoin: at any raw numbers it returns true and leaves what was in memory. -/
namespace Go.Proofs.YtlaagfnoepcnlaaDoor.Ln
open Go.ChangeShapes Go.WideShapes Go.ChangeAt Go.RowKit
open Go.Proofs.YtlaagfnoepcnlaaDoor.St (BoxN boxn_new own_below IsRow Elem flat own_isRow)
open Go.Proofs.YtlaagfnoepcnlaaDoor.Pt (LS2 two_any cfg_two)
set_option linter.unusedVariables false

def tickA : AV := ⟨5, 0, 0, 0, 0, none, 0, 0, 0, 0, 0, 0, 0, .empty, []⟩
theorem tick_fine : actFault 3 LS2 3 tickA = 0 := by rfl
theorem three_two : (1 : Int) + pk 2 3 = 3 := by decide
theorem av_len (x : AV) : x.cells.length = 12 := rfl
theorem av_one (y : AV) : ∀ u ∈ y.cells, u.oneCell' = true := by
  intro u hu
  simp only [AV.cells, List.mem_cons, List.not_mem_nil, or_false] at hu
  rcases hu with rfl | rfl | rfl | rfl | rfl | rfl | rfl | rfl | rfl | rfl | rfl | rfl <;> rfl
theorem avElem : ∃ i, Elem 12 AV.cells 41 25 i (.agg #[.int .i64 0, .int .i64 0, .int .i64 0, .int .i64 0, .int .i64 0, .slice none 0 0, .int .i64 0, .int .i64 0, .int .i64 0, .int .i64 0, .int .i64 0, .string .empty]) 120 := by
  obtain ⟨j0, hj, lj0, lj1, lj2⟩ := info_parts actInfo
  exact ⟨j0, av_len, by decide, av_one, Tryd.underlying25, hj, lj0, lj1, lj2, rfl⟩
theorem acts_row {U : World} {a : Option Addr} {n c : Nat} {ys : List AV} (hr : IsRow 12 AV.cells U a n c ys) (hk : ∀ y ∈ ys, IsInts U y.ka y.kl y.kc y.keep) : IsActs U a n c ys := by
  obtain ⟨h1, h2, h3, _, h5⟩ := hr
  refine ⟨h1, h2, h3, fun hp => ?_⟩
  obtain ⟨b, off, e, zb, hc⟩ := h5 hp
  refine ⟨b, off, e, zb, fun i hi => ⟨fun j hj => hc i (by omega) j hj, hk _ ?_⟩⟩
  simp [List.getD, hi]
theorem tick_row (U : World) (q : Nat) (hq : q = U.heap.size) : IsRow 12 AV.cells (U.alloc (.cells #[.int .i64 5, .int .i64 0, .int .i64 0, .int .i64 0, .int .i64 0, .slice none 0 0, .int .i64 0, .int .i64 0, .int .i64 0, .int .i64 0, .int .i64 0, .string .empty] 41)) (some ⟨q, 0, none⟩) 1 1 [tickA] := by
  subst hq
  have b := boxn_new U #[.int .i64 5, .int .i64 0, .int .i64 0, .int .i64 0, .int .i64 0, .slice none 0 0, .int .i64 0, .int .i64 0, .int .i64 0, .int .i64 0, .int .i64 0, .string .empty] 41 12 rfl
  refine ⟨rfl, Nat.le_refl _, by unfold maxLen; omega, nofun, fun _ => ⟨_, 0, rfl, b.lt, fun i hi j hj => ?_⟩⟩
  obtain rfl : i = 0 := by omega
  rw [Nat.zero_mul, Nat.zero_add, (b.c j hj).1]
  rcases (by omega : j = 0 ∨ j = 1 ∨ j = 2 ∨ j = 3 ∨ j = 4 ∨ j = 5 ∨ j = 6 ∨ j = 7 ∨ j = 8 ∨ j = 9 ∨ j = 10 ∨ j = 11) with rfl | rfl | rfl | rfl | rfl | rfl | rfl | rfl | rfl | rfl | rfl | rfl <;> rfl
theorem lowerA {w : World} {B C : Nat} {v : Value} {ys : List AV} (h : OwnActs w C v ys) (hB : B ≤ C) : OwnActs w B v ys := ⟨ownB h.row hB, fun y hy => ⟨ownB (h.keeps y hy).1 hB, (h.keeps y hy).2⟩⟩
theorem linesOf_app (xs ys : List AV) : linesOf (xs ++ ys) = linesOf xs ++ linesOf ys := by
  induction xs with
  | nil => rfl
  | cons x r ih => simp [linesOf, ih]
theorem badAt_none {s : Int} {ls : List (Int × Int)} {p : Int} : ∀ (xs : List AV) (k : Nat), (∀ x ∈ xs, actFault s ls p x = 0) → badAt s ls p k xs = none
  | [], _, _ => rfl
  | x :: r, k, h => by
    rw [badAt, if_pos (h x (by simp))]
    exact badAt_none r (k + 1) (fun y hy => h y (by simp [hy]))
theorem shAll_fine {s : Int} {ls : List (Int × Int)} {p : Int} {xs : List AV} (hc : cfgFault s ls p = 0) (hl : xs.length ≤ 3000) (h : ∀ x ∈ xs, actFault s ls p x = 0) : shAll s ls p xs = (linesOf xs, 0, 0) := by
  unfold shAll
  rw [if_neg (by simp [hc]), if_neg (by omega), badAt_none xs 0 h]
  rfl
theorem linesOf_bd {s : Int} {ls : List (Int × Int)} {p : Int} (hl : ls.length ≤ 6) (hs : s ≤ 4) : ∀ (xs : List AV), (∀ x ∈ xs, actFault s ls p x = 0 ∧ x.keep.length = x.kl) → (linesOf xs).length ≤ 2075 * xs.length
  | [], _ => by simp [linesOf]
  | x :: r, h => by
    have h1 := h x (by simp)
    have h2 := actLine_bd (act_ok hl hs h1.2 h1.1)
    have h3 := linesOf_bd hl hs r (fun y hy => h y (by simp [hy]))
    simp only [linesOf, actLine, List.length_append, List.length_cons, List.length_nil]
    omega
theorem grownN8 {w w' : World} (h : w.grownBy w' none) : Below w.heap.size w w' := (Below.refl w.heap.size w).grown h (Nat.le_refl _) (fun k hk => by cases hk)
set_option maxRecDepth 100000 in
set_option maxHeartbeats 8000000 in
theorem linesJoin_walk (aa : Option Addr) (alen acap : Nat) (rs : List RV) (ba : Option Addr) (blen bcap : Nat) (rt : List RV) (w : World) (hr : IsRaws w aa alen acap rs) (hr2 : IsRaws w ba blen bcap rt) (hT : ∀ U, Below w.heap.size w U → LnT U) :
    Calls Tryd.prog 8 #[.slice aa alen acap, .slice ba blen bcap] w fun e w' => e = .returned (.bool true) ∧ Below w.heap.size w w' := by
  obtain ⟨iA, EA⟩ := avElem
  have hTwo := fun u => two_any 2 u (by decide)
  rw [three_two] at hTwo
  have hcf : cfgFault 3 LS2 3 = 0 := cfg_two (by decide) (by decide) (by decide) (by decide)
  have HCF : Hid (cfgFault 3 LS2 3 = 0) := hcf
  clear hcf
  go_enter Tryd.func8, Tryd.ntmps8
  go_upto_region 2 with (go_at_call 17; refine (hTwo _).mono ?_; rintro e w1 ⟨g, rfl, hLb, hg, hb1⟩)
  obtain ⟨X, hX⟩ : ∃ X : World, X = w1.alloc (.cells #[.int .i64 3, .slice (some ⟨g, 0, none⟩) 2 2, .int .i64 3] 24) := ⟨_, rfl⟩
  have bX : Below w1.heap.size w1 X := by rw [hX]; exact (Below.refl _ _).alloc (Nat.le_refl _) _
  have bx0 : BoxN X w1.heap.size 3 [.int .i64 3, .slice (some ⟨g, 0, none⟩) 2 2, .int .i64 3] := by rw [hX]; exact boxn_new w1 #[.int .i64 3, .slice (some ⟨g, 0, none⟩) 2 2, .int .i64 3] 24 3 rfl
  rw [← hX]
  clear hX hTwo
  obtain ⟨m0, em0⟩ : ∃ m, m = w1.heap.size := ⟨_, rfl⟩
  rw [← em0] at bx0 ⊢
  have bwX : Below w.heap.size w X := hb1.trans (bX.mono hb1.size)
  have KV : Hid (∀ U, Below X.heap.size X U → (U.cell? ⟨m0, 0, none⟩ = some (.int .i64 3) ∧ U.cell? ⟨m0, 1, none⟩ = some (.slice (some ⟨g, 0, none⟩) 2 2) ∧ U.cell? ⟨m0, 2, none⟩ = some (.int .i64 3) ∧ m0 < U.heap.size) ∧ IsLabs U (some ⟨g, 0, none⟩) 2 2 LS2 ∧ IsRaws U ba blen bcap rt ∧ Below w.heap.size w U ∧ LnT U) := fun U hU => by
    have h1 := bx0.below hU bx0.lt
    have h9 := bwX.trans (hU.mono bwX.size)
    exact ⟨⟨(h1.c 0 (by decide)).1, (h1.c 1 (by decide)).1, (h1.c 2 (by decide)).1, h1.lt⟩, (hLb.below bX).below hU, hr2.below h9, h9, hT U h9⟩
  have HSh : Hid (∀ (U : World) (xa : Option Addr) (n xc : Nat) (xs : List AV), Below X.heap.size X U → IsActs U xa n xc xs → n ≤ 3000 → (∀ x ∈ xs, actFault 3 LS2 3 x = 0) → Calls Tryd.prog 9 #[.agg #[.int .i64 3, .slice (some ⟨g, 0, none⟩) 2 2, .int .i64 3], .slice xa n xc] U fun e w' => e = .returned (.tuple #[.string ⟨(linesOf xs).toArray⟩, .int .i64 0, .int .i64 0]) ∧ Below U.heap.size U w') := fun U xa n xc xs hU hx hn hf => by
    obtain ⟨-, h2, -, h4, -⟩ := KV.out U hU
    have h := show_any 3 3 (some ⟨g, 0, none⟩) 2 2 LS2 xa n xc xs U h2 hx (fun Z hZ => hT Z (h4.trans (hZ.mono h4.size)))
    rw [shAll_fine HCF.out (by rw [hx.1]; exact hn) hf] at h
    exact h
  obtain ⟨⟨c0, c1, c2, zc⟩, -, -, -, -⟩ := KV.out X (Below.refl _ _)
  have hAc := acts_most 3 3 (some ⟨g, 0, none⟩) 2 2 aa alen acap rs X (by decide) (by decide) (hr.below bwX) 12 (by decide)
  have HFn : Hid (∀ y, Fine 3 2 y → actFault 3 LS2 3 y = 0) := fun y hy => hy.fault HCF.out rfl
  clear hr hr2 hT hLb hb1 bX bx0 em0 hg
  go_upto_region 3 with (go_at_call 15; refine hAc.mono ?_; rintro e u1 ⟨a1, k1, y1, rfl, ⟨B1, hB1, hO1⟩, hF1, hl1, bu1⟩)
  clear c0 c1 c2 zc hAc
  obtain ⟨⟨c0, c1, c2, zc⟩, -, hra, -, -⟩ := KV.out u1 bu1
  have hAc := acts_most 3 3 (some ⟨g, 0, none⟩) 2 2 ba blen bcap rt u1 (by decide) (by decide) hra 12 (by decide)
  clear hra
  have HO1 : Hid (∀ U, Below u1.heap.size u1 U → OwnActs U B1 (.slice a1 y1.length k1) y1) := fun U hU => hO1.below hU
  have HD : Hid (∀ (u2 : World) (a2 : Option Addr) (k2 : Nat) (y2 : List AV) (w5 : World) (a5 : Option Addr) (c5 : Nat), Below u1.heap.size u1 u2 → OwnActs u2 u1.heap.size (.slice a2 y2.length k2) y2 → w5.ownsRow u1.heap.size 41 12 (.slice a5 (y2.length + 1) c5) (y2.length + 1) (flat AV.cells (y2 ++ [tickA])) → (u2.alloc (.cells #[.int .i64 5, .int .i64 0, .int .i64 0, .int .i64 0, .int .i64 0, .slice none 0 0, .int .i64 0, .int .i64 0, .int .i64 0, .int .i64 0, .int .i64 0, .string .empty] 41)).grownBy w5 (Value.slice a2 y2.length k2).ownBlock → OwnActs w5 u1.heap.size (.slice a5 (y2.length + 1) c5) (y2 ++ [tickA]) ∧ Below u1.heap.size u1 w5) := fun u2 a2 k2 y2 w5 a5 c5 b2 hO2 own5 gr5 => by
    have hbA : Below u2.heap.size u2 (u2.alloc (.cells #[.int .i64 5, .int .i64 0, .int .i64 0, .int .i64 0, .int .i64 0, .slice none 0 0, .int .i64 0, .int .i64 0, .int .i64 0, .int .i64 0, .int .i64 0, .string .empty] 41)) := (Below.refl _ _).alloc (Nat.le_refl _) _
    refine ⟨hO2.push hbA (World.ownsRow_nil _ _ _ _) (fun i => by simp [tickA]) (by
      have e : flatActs y2 ++ tickA.cells = flat AV.cells (y2 ++ [tickA]) := by rw [← flatActs_append]; rfl
      rw [e]
      exact own5) gr5, ?_⟩
    have h8 : Below u1.heap.size u1 (u2.alloc (.cells #[.int .i64 5, .int .i64 0, .int .i64 0, .int .i64 0, .int .i64 0, .slice none 0 0, .int .i64 0, .int .i64 0, .int .i64 0, .int .i64 0, .int .i64 0, .string .empty] 41)) := b2.trans (hbA.mono b2.size)
    exact h8.grown gr5 h8.size (fun q hq => (hO2.row.lt q hq).1)
  clear hO1
  go_upto_region 4 with (first | (go_at_call 15; refine hAc.mono ?_; rintro e u2 ⟨a2, k2, y2, rfl, ⟨B2, hB2, hO2'⟩, hF2, hl2, bu2⟩; have hO2 := lowerA hO2' hB2; have hu12 := bu2.size) | (at_builtin; go_loud (refine St.wpList_append_row EA (by rfl) _ _ (by rfl) u1.heap.size (.slice a2 y2.length k2) y2.length y2 (by rfl) (own_below hO2.row ((Below.refl _ _).alloc (Nat.le_refl _) _)) _ 1 1 [tickA] (by rfl) (tick_row u2 _ rfl) (by unfold maxLen; omega) (by omega) (by simp; omega) ?_; intro a5 c5 w5 own5 gr5 at5; have hD5 := HD.out u2 a2 k2 y2 w5 a5 c5 bu2 hO2 own5 gr5)))
  obtain ⟨hO5, b5⟩ := hD5
  clear c0 c1 c2 zc hAc HD hO2 hO2' bu2 hB2
  obtain ⟨YB, eYB⟩ : ∃ x, x = y2 ++ [tickA] := ⟨_, rfl⟩
  have hYl : y2.length + 1 = YB.length := by rw [eYB]; simp
  have HYB : Hid (∀ x ∈ YB, actFault 3 LS2 3 x = 0) := fun x hx => by
    rw [eYB] at hx
    rcases List.mem_append.1 hx with hx | hx
    · exact HFn.out x (hF2 x hx)
    · simp only [List.mem_singleton] at hx; subst hx; exact tick_fine
  have HYA : Hid (∀ x ∈ y1, actFault 3 LS2 3 x = 0) := fun x hx => HFn.out x (hF1 x hx)
  have HLT : Hid (∃ c r, linesOf YB = c :: r) := by
    show ∃ c r, _ = _
    rw [eYB, linesOf_app]
    cases h : linesOf y2 with
    | nil => exact ⟨_, _, rfl⟩
    | cons c r => exact ⟨c, _, rfl⟩
  rw [← eYB, hYl] at hO5
  rw [hYl]
  obtain ⟨nB, enB⟩ : ∃ x, x = YB.length := ⟨_, rfl⟩
  obtain ⟨nA, enA⟩ : ∃ x, x = y1.length := ⟨_, rfl⟩
  have hnB : nB ≤ 15 := by omega
  have hnA : nA ≤ 14 := by omega
  rw [← enB] at hO5 ⊢
  rw [← enA] at HO1 ⊢
  have HE : Hid (nB = YB.length ∧ nA = y1.length) := ⟨enB, enA⟩
  clear hYl hF1 hF2 hl1 hl2 HFn enB enA eYB
  have hbX5 : Below X.heap.size X w5 := bu1.trans (b5.mono bu1.size)
  have HO5 : Hid (∀ U, Below w5.heap.size w5 U → OwnActs U u1.heap.size (.slice a5 nB c5) YB) := fun U hU => hO5.below hU
  have HA : Hid (∀ U, Below w5.heap.size w5 U → OwnActs U B1 (.slice a1 nA k1) y1) := fun U hU => HO1.out U (b5.trans (hU.mono b5.size))
  have K5 : Hid (∀ U, Below w5.heap.size w5 U → Below X.heap.size X U) := fun U hU => hbX5.trans (hU.mono hbX5.size)
  clear HO1 hO5 b5 bu1 hbX5
  obtain ⟨⟨c0, c1, c2, zc⟩, -, -, -, -⟩ := KV.out w5 (K5.out w5 (Below.refl _ _))
  have hS1 := HSh.out w5 a1 nA k1 y1 (K5.out w5 (Below.refl _ _)) (by have h := (HA.out w5 (Below.refl _ _)).isActs; exact h.2) (by omega) HYA.out
  go_upto_region 5 with (go_at_call 9; refine hS1.mono ?_; rintro e u6 ⟨rfl, b6⟩)
  clear c0 c1 c2 zc hS1
  obtain ⟨⟨c0, c1, c2, zc⟩, -, -, -, -⟩ := KV.out u6 (K5.out u6 b6)
  have hS2 := HSh.out u6 a5 nB c5 YB (K5.out u6 b6) ((HO5.out u6 b6).isActs.2) (by omega) HYB.out
  go_upto_region 6 with (go_at_call 9; refine hS2.mono ?_; rintro e u7 ⟨rfl, b7⟩)
  clear c0 c1 c2 zc hS2
  have b57 := b6.trans (b7.mono b6.size)
  have hA7 := HA.out u7 b57
  have hB7 := HO5.out u7 b57
  have KC : Hid (∀ U, Below u7.heap.size u7 U → (U.cell? ⟨m0, 0, none⟩ = some (.int .i64 3) ∧ U.cell? ⟨m0, 1, none⟩ = some (.slice (some ⟨g, 0, none⟩) 2 2) ∧ U.cell? ⟨m0, 2, none⟩ = some (.int .i64 3) ∧ m0 < U.heap.size) ∧ Below X.heap.size X U ∧ Below w.heap.size w U) := fun U hU => by
    have h1 := K5.out U (b57.trans (hU.mono b57.size))
    have h2 := KV.out U h1
    exact ⟨h2.1, h1, h2.2.2.2.1⟩
  have KA : Hid (∀ U, Below u7.heap.size u7 U → IsRow 12 AV.cells U a1 nA k1 y1) := fun U hU => (own_isRow av_len (own_below (HE.out.2 ▸ hA7.row : u7.ownsRow B1 41 12 (.slice a1 nA k1) nA (flat AV.cells y1)) hU) HE.out.2.symm).1
  have KB : Hid (∀ U, Below u7.heap.size u7 U → IsRow 12 AV.cells U a5 nB c5 YB) := fun U hU => (own_isRow av_len (own_below (HE.out.1 ▸ hB7.row : u7.ownsRow u1.heap.size 41 12 (.slice a5 nB c5) nB (flat AV.cells YB)) hU) HE.out.1.symm).1
  have KK : Hid (∀ U, Below u7.heap.size u7 U → ∀ y ∈ y1 ++ YB, IsInts U y.ka y.kl y.kc y.keep) := fun U hU y hy => by
    rcases List.mem_append.1 hy with hy | hy
    · exact (ints_of_own (hA7.keeps y hy).1 (hA7.keeps y hy).2).below hU
    · exact (ints_of_own (hB7.keeps y hy).1 (hB7.keeps y hy).2).below hU
  have HF : Hid (∀ x ∈ y1 ++ YB, actFault 3 LS2 3 x = 0) := fun x hx => by
    rcases List.mem_append.1 hx with hx | hx
    · exact HYA.out x hx
    · exact HYB.out x hx
  have HSz : Hid ((linesOf y1).length ≤ 40000 ∧ (linesOf YB).length ≤ 40000) := by
    have h1 := linesOf_bd (s := 3) (ls := LS2) (p := 3) (by decide) (by decide) y1 (fun x hx => ⟨HYA.out x hx, (KK.out u7 (Below.refl _ _) x (by simp [hx])).1⟩)
    have h2 := linesOf_bd (s := 3) (ls := LS2) (p := 3) (by decide) (by decide) YB (fun x hx => ⟨HYB.out x hx, (KK.out u7 (Below.refl _ _) x (by simp [hx])).1⟩)
    have := HE.out
    exact ⟨by omega, by omega⟩
  have HL3 : Hid ((⟨(linesOf (y1 ++ YB)).toArray⟩ : ByteArray) = (⟨(linesOf y1).toArray⟩ : ByteArray) ++ (⟨(linesOf YB).toArray⟩ : ByteArray)) := by
    show _ = _
    rw [linesOf_app]
    apply ByteArray.ext
    simp
  have Hl3 : Hid ((y1 ++ YB).length = nA + nB) := by show _ = _; rw [List.length_append, HE.out.1, HE.out.2]
  have HS3 : Hid (∀ (U : World) (a7 : Option Addr) (c7 : Nat), Below u7.heap.size u7 U → IsRow 12 AV.cells U a7 (nA + nB) c7 (y1 ++ YB) → Calls Tryd.prog 9 #[.agg #[.int .i64 3, .slice (some ⟨g, 0, none⟩) 2 2, .int .i64 3], .slice a7 (nA + nB) c7] U fun e w' => e = .returned (.tuple #[.string ⟨(linesOf (y1 ++ YB)).toArray⟩, .int .i64 0, .int .i64 0]) ∧ Below U.heap.size U w') := fun U a7 c7 hU hr => HSh.out U a7 (nA + nB) c7 (y1 ++ YB) (KC.out U hU).2.1 (acts_row hr (KK.out U hU)) (by omega) HF.out
  obtain ⟨SA, eSA⟩ : ∃ x : ByteArray, x = ⟨(linesOf y1).toArray⟩ := ⟨_, rfl⟩
  obtain ⟨SB, eSB⟩ : ∃ x : ByteArray, x = ⟨(linesOf YB).toArray⟩ := ⟨_, rfl⟩
  obtain ⟨SC, eSC⟩ : ∃ x : ByteArray, x = ⟨(linesOf (y1 ++ YB)).toArray⟩ := ⟨_, rfl⟩
  have hSz : SA.size ≤ 40000 ∧ SB.size ≤ 40000 := by rw [eSA, eSB]; exact HSz.out
  have hSp : (0 : Int) < (SB.size : Int) := by
    obtain ⟨c, r, h⟩ := HLT.out
    have : SB.size = (linesOf YB).length := by rw [eSB]; rfl
    rw [this, h]
    simp
  rw [← eSA, ← eSB, ← eSC] at HL3
  rw [← eSC] at HS3
  rw [← eSA, ← eSB]
  have hz : ¬ (9223372036854775807 < SA.size + SB.size) := by omega
  have HAp : Hid (∀ U, Below u7.heap.size u7 U → IsRow 12 AV.cells U a1 nA k1 y1) := KA.out
  clear eSA eSB eSC HSz HLT HSh KV HO5 HA K5 hA7 hB7 HYA HYB KK HF b6 b7 b57 HE KA HCF bwX
  refine wp_region_inv (by kernel_rfl) [42, 43, 44, 45, 46, 47, 41, 48, 49, 50, 14, 15, 16] (fun L T u => ∃ (a6 : Option Addr) (c6 : Nat) (a7 : Option Addr) (c7 : Nat), Below u7.heap.size u7 u ∧ (L 0 = true → T 42 = .agg #[.int .i64 3, .slice (some ⟨g, 0, none⟩) 2 2, .int .i64 3]) ∧ (L 1 = true → T 43 = .slice a1 nA k1) ∧ (L 2 = true → T 44 = .slice a6 nA c6) ∧ (L 3 = true → T 45 = .slice a5 nB c5) ∧ (L 4 = true → T 46 = .slice a7 (nA + nB) c7) ∧ (L 5 = true → T 47 = .tuple #[.string SC, .int .i64 0, .int .i64 0]) ∧ (L 6 = true → T 41 = .tuple #[.string SC, .int .i64 0, .int .i64 0]) ∧ (L 7 = true → T 48 = .string SC) ∧ (L 8 = true → T 49 = .int .i64 0) ∧ (L 9 = true → T 50 = .int .i64 0) ∧ (L 10 = true → T 14 = .string SC) ∧ (L 11 = true → T 15 = .int .i64 0) ∧ (L 12 = true → T 16 = .int .i64 0) ∧ (L 2 = true → L 4 = false → u.ownsRow u7.heap.size 41 12 (.slice a6 nA c6) nA (flat AV.cells y1)) ∧ (L 4 = true → L 5 = false → IsRow 12 AV.cells u a7 (nA + nB) c7 (y1 ++ YB))) (by decide) (by kernel_rfl) (by kernel_rfl) ?_ ?_ ?_
  · exact ⟨none, 0, none, 0, (Below.refl _ _).drew, nofun, nofun, nofun, nofun, nofun, nofun, nofun, nofun, nofun, nofun, nofun, nofun, nofun, nofun, nofun⟩
  · refine ⟨?_, ?_, ?_, ?_, ?_, ?_, ?_, ?_, ?_, ?_, ?_, ?_, ?_, trivial⟩
    · rintro L T u hd hk hcl ⟨a6, c6, a7, c7, hb, f0, f1, f2, f3, f4, f5, f6, f7, f8, f9, f10, f11, f12, r2, r4⟩ K hK
      simp only [fr, Act.put, List.setIfInBounds_toArray, List.set_cons_zero, List.set_cons_succ, updO] at hK ⊢
      simp [Region.binds] at hd
      obtain ⟨⟨c0, c1, c2, zc⟩, -, -⟩ := KC.out u hb
      rw [if_pos (by rfl)]
      simp only [Oper.wpv]
      go_simp
      exact hK _ _ ⟨a6, c6, a7, c7, hb, fun _ => rfl, f1, f2, f3, f4, f5, f6, f7, f8, f9, f10, f11, f12, r2, r4⟩
    · rintro L T u hd hk hcl ⟨a6, c6, a7, c7, hb, f0, f1, f2, f3, f4, f5, f6, f7, f8, f9, f10, f11, f12, r2, r4⟩ K hK
      simp only [fr, Act.put, List.setIfInBounds_toArray, List.set_cons_zero, List.set_cons_succ, updO] at hK ⊢
      simp [Region.binds] at hd
      rw [if_pos (by rfl)]
      simp only [Oper.wpv]
      go_simp
      exact hK _ _ ⟨a6, c6, a7, c7, hb, f0, fun _ => rfl, f2, f3, f4, f5, f6, f7, f8, f9, f10, f11, f12, r2, r4⟩
    · rintro L T u hd hk hcl ⟨a6, c6, a7, c7, hb, f0, f1, f2, f3, f4, f5, f6, f7, f8, f9, f10, f11, f12, r2, r4⟩ K hK
      simp only [fr, Act.put, List.setIfInBounds_toArray, List.set_cons_zero, List.set_cons_succ, updO] at hK ⊢
      simp [Region.binds] at hd
      have g1 := f1 (by simp [hd])
      have k4 := hcl 4 _ rfl
      simp [Region.binds] at k4
      have k5 := hcl 5 _ rfl
      simp [Region.binds] at k5
      rw [if_pos (by rfl)]
      simp only [Oper.wpv]
      refine St.wpv_append_row EA (.const (.slice none 0 0)) (.tmp 43) (by rfl) u7.heap.size (.slice none 0 0) 0 [] (by rfl) (World.ownsRow_nil _ _ _ _) a1 nA k1 y1 g1 (HAp.out _ hb) (by unfold maxLen; omega) (by omega) hb.size ?_
      intro b6 d6 u9 own1 gr1 at1
      have hg := grownN8 gr1
      simp only [Nat.zero_add, List.nil_append] at own1 ⊢
      exact hK _ _ ⟨b6, d6, a7, c7, (sT hb hg), f0, f1, fun _ => rfl, f3, f4, f5, f6, f7, f8, f9, f10, f11, f12, fun _ _ => own1, fun h0 h1 => St.IsRow.below (r4 h0 h1) hg⟩
    · rintro L T u hd hk hcl ⟨a6, c6, a7, c7, hb, f0, f1, f2, f3, f4, f5, f6, f7, f8, f9, f10, f11, f12, r2, r4⟩ K hK
      simp only [fr, Act.put, List.setIfInBounds_toArray, List.set_cons_zero, List.set_cons_succ, updO] at hK ⊢
      simp [Region.binds] at hd
      rw [if_pos (by rfl)]
      simp only [Oper.wpv]
      go_simp
      exact hK _ _ ⟨a6, c6, a7, c7, hb, f0, f1, f2, fun _ => rfl, f4, f5, f6, f7, f8, f9, f10, f11, f12, r2, r4⟩
    · rintro L T u hd hk hcl ⟨a6, c6, a7, c7, hb, f0, f1, f2, f3, f4, f5, f6, f7, f8, f9, f10, f11, f12, r2, r4⟩ K hK
      simp only [fr, Act.put, List.setIfInBounds_toArray, List.set_cons_zero, List.set_cons_succ, updO] at hK ⊢
      simp [Region.binds] at hd
      have g2 := f2 (by simp [hd])
      have g3 := f3 (by simp [hd])
      have q2 := r2 (by simp [hd]) hk
      have k5 := hcl 5 _ rfl
      simp [Region.binds] at k5
      rw [if_pos (by rfl)]
      simp only [Oper.wpv]
      refine St.wpv_append_row EA (.tmp 44) (.tmp 45) (by rfl) u7.heap.size (.slice a6 nA c6) nA y1 g2 q2 a5 nB c5 YB g3 (KB.out _ hb) (by unfold maxLen; omega) (by omega) hb.size ?_
      intro b6 d6 u9 own1 gr1 at1
      have hb9 : Below u7.heap.size u7 u9 := hb.grown gr1 hb.size (fun z hz => (q2.lt z hz).1)
      have hR1 := (own_isRow av_len own1 Hl3.out).1
      exact hK _ _ ⟨a6, c6, b6, d6, hb9, f0, f1, f2, f3, fun _ => rfl, f5, f6, f7, f8, f9, f10, f11, f12, fun _ h => Bool.noConfusion (show true = false from h), fun _ _ => hR1⟩
    · rintro L T u hd hk hcl ⟨a6, c6, a7, c7, hb, f0, f1, f2, f3, f4, f5, f6, f7, f8, f9, f10, f11, f12, r2, r4⟩ K hK
      simp only [fr, Act.put, List.setIfInBounds_toArray, List.set_cons_zero, List.set_cons_succ, updO] at hK ⊢
      simp [Region.binds] at hd
      have g0 := f0 (by simp [hd])
      have g4 := f4 (by simp [hd])
      have q4 := r4 (by simp [hd]) hk
      rw [if_pos (by rfl)]
      simp only [Oper.wpv]
      go_simp
      refine (HS3.out u a7 c7 hb q4).mono ?_
      rintro e u3 ⟨rfl, hg⟩
      exact hK _ _ ⟨a6, c6, a7, c7, (sT hb hg), f0, f1, f2, f3, f4, fun _ => rfl, f6, f7, f8, f9, f10, f11, f12, fun h0 h1 => own_below (r2 h0 h1) hg, fun _ h => Bool.noConfusion (show true = false from h)⟩
    · rintro L T u hd hk hcl ⟨a6, c6, a7, c7, hb, f0, f1, f2, f3, f4, f5, f6, f7, f8, f9, f10, f11, f12, r2, r4⟩ K hK
      simp only [fr, Act.put, List.setIfInBounds_toArray, List.set_cons_zero, List.set_cons_succ, updO] at hK ⊢
      simp [Region.binds] at hd
      have g5 := f5 (by simp [hd])
      rw [if_pos (by rfl)]
      simp only [Oper.wpv]
      go_simp
      exact hK _ _ ⟨a6, c6, a7, c7, hb, f0, f1, f2, f3, f4, f5, fun _ => rfl, f7, f8, f9, f10, f11, f12, r2, r4⟩
    · rintro L T u hd hk hcl ⟨a6, c6, a7, c7, hb, f0, f1, f2, f3, f4, f5, f6, f7, f8, f9, f10, f11, f12, r2, r4⟩ K hK
      simp only [fr, Act.put, List.setIfInBounds_toArray, List.set_cons_zero, List.set_cons_succ, updO] at hK ⊢
      simp [Region.binds] at hd
      have g6 := f6 (by simp [hd])
      rw [if_pos (by rfl)]
      simp only [Oper.wpv]
      go_simp
      exact hK _ _ ⟨a6, c6, a7, c7, hb, f0, f1, f2, f3, f4, f5, f6, fun _ => rfl, f8, f9, f10, f11, f12, r2, r4⟩
    · rintro L T u hd hk hcl ⟨a6, c6, a7, c7, hb, f0, f1, f2, f3, f4, f5, f6, f7, f8, f9, f10, f11, f12, r2, r4⟩ K hK
      simp only [fr, Act.put, List.setIfInBounds_toArray, List.set_cons_zero, List.set_cons_succ, updO] at hK ⊢
      simp [Region.binds] at hd
      have g6 := f6 (by simp [hd])
      rw [if_pos (by rfl)]
      simp only [Oper.wpv]
      go_simp
      exact hK _ _ ⟨a6, c6, a7, c7, hb, f0, f1, f2, f3, f4, f5, f6, f7, fun _ => rfl, f9, f10, f11, f12, r2, r4⟩
    · rintro L T u hd hk hcl ⟨a6, c6, a7, c7, hb, f0, f1, f2, f3, f4, f5, f6, f7, f8, f9, f10, f11, f12, r2, r4⟩ K hK
      simp only [fr, Act.put, List.setIfInBounds_toArray, List.set_cons_zero, List.set_cons_succ, updO] at hK ⊢
      simp [Region.binds] at hd
      have g6 := f6 (by simp [hd])
      rw [if_pos (by rfl)]
      simp only [Oper.wpv]
      go_simp
      exact hK _ _ ⟨a6, c6, a7, c7, hb, f0, f1, f2, f3, f4, f5, f6, f7, f8, fun _ => rfl, f10, f11, f12, r2, r4⟩
    · rintro L T u hd hk hcl ⟨a6, c6, a7, c7, hb, f0, f1, f2, f3, f4, f5, f6, f7, f8, f9, f10, f11, f12, r2, r4⟩ K hK
      simp only [fr, Act.put, List.setIfInBounds_toArray, List.set_cons_zero, List.set_cons_succ, updO] at hK ⊢
      simp [Region.binds] at hd
      have g7 := f7 (by simp [hd])
      rw [if_pos (by rfl)]
      simp only [Oper.wpv]
      go_simp
      exact hK _ _ ⟨a6, c6, a7, c7, hb, f0, f1, f2, f3, f4, f5, f6, f7, f8, f9, fun _ => rfl, f11, f12, r2, r4⟩
    · rintro L T u hd hk hcl ⟨a6, c6, a7, c7, hb, f0, f1, f2, f3, f4, f5, f6, f7, f8, f9, f10, f11, f12, r2, r4⟩ K hK
      simp only [fr, Act.put, List.setIfInBounds_toArray, List.set_cons_zero, List.set_cons_succ, updO] at hK ⊢
      simp [Region.binds] at hd
      have g8 := f8 (by simp [hd])
      rw [if_pos (by rfl)]
      simp only [Oper.wpv]
      go_simp
      exact hK _ _ ⟨a6, c6, a7, c7, hb, f0, f1, f2, f3, f4, f5, f6, f7, f8, f9, f10, fun _ => rfl, f12, r2, r4⟩
    · rintro L T u hd hk hcl ⟨a6, c6, a7, c7, hb, f0, f1, f2, f3, f4, f5, f6, f7, f8, f9, f10, f11, f12, r2, r4⟩ K hK
      simp only [fr, Act.put, List.setIfInBounds_toArray, List.set_cons_zero, List.set_cons_succ, updO] at hK ⊢
      simp [Region.binds] at hd
      have g9 := f9 (by simp [hd])
      rw [if_pos (by rfl)]
      simp only [Oper.wpv]
      go_simp
      exact hK _ _ ⟨a6, c6, a7, c7, hb, f0, f1, f2, f3, f4, f5, f6, f7, f8, f9, f10, f11, fun _ => rfl, r2, r4⟩
  · rintro L T u hl ⟨a6, c6, a7, c7, hb, f0, f1, f2, f3, f4, f5, f6, f7, f8, f9, f10, f11, f12, r2, r4⟩
    simp only [fr, Act.put, List.setIfInBounds_toArray, List.set_cons_zero, List.set_cons_succ]
    have h14 := f10 (hl 10 (by decide))
    have h15 := f11 (hl 11 (by decide))
    have h16 := f12 (hl 12 (by decide))
    clear f0 f1 f2 f3 f4 f5 f6 f7 f8 f9 f10 f11 f12 r2 r4 HS3 KB HAp Hl3
    rw [h14, h15, h16]
    have hbw := (KC.out u hb).2.2
    have hL := HL3.out
    clear h14 h15 h16 KC HL3
    subst hL
    go_wp2
    go_ret
    exact ⟨by simp; omega, hbw⟩
end Go.Proofs.YtlaagfnoepcnlaaDoor.Ln
/- Closed facts of the row of LinesJoin, by the kernel. -/
namespace Go.Proofs.YtlaagfnoepcnlaaDoor.linesJoinProof
set_option maxRecDepth 100000
theorem c_inPlace : (Rows.linesJoinRow.inPlace == Tryd.pinned.checked.prog.inPlace 8) = true := by kernel_rfl
end Go.Proofs.YtlaagfnoepcnlaaDoor.linesJoinProof
/- Closed facts of the row of LinesJoin, by the kernel. -/
namespace Go.Proofs.YtlaagfnoepcnlaaDoor.linesJoinProof
set_option maxRecDepth 100000
theorem c_unf : (Rows.linesJoinRow.unfollowed == Tryd.pinned.checked.prog.unfollowed 8) = true := by kernel_rfl
end Go.Proofs.YtlaagfnoepcnlaaDoor.linesJoinProof
