/- Texts of this claim, one behind the other. -/
import Derived.Test.YtlaagfnoepcnlaaDoorM24LinesReads
import Derived.Test.YtlaagfnoepcnlaaDoorM14LinesReads
import Derived.Test.YtlaagfnoepcnlaaDoorA27LinesReads
import Derived.Test.YtlaagfnoepcnlaaDoorM8LinesReads
import Derived.Test.YtlaagfnoepcnlaaDoorM10LinesReads
import Derived.LoopTactic
import Derived.Deep.QuietTactic
import Derived.BigQuiet
/- lines.Read. -/
namespace Go.Proofs.YtlaagfnoepcnlaaDoor.Ln
open Go.ChangeShapes Go.WideShapes Go.ChangeAt Go.RowKit
open Go.Proofs.YtlaagfnoepcnlaaDoor.St (BoxN boxn_new own_below IsRow Elem flat own_isRow)
set_option linter.unusedVariables false

theorem nk_fault {s : Int} {ls : List (Int × Int)} {p : Int} {a : AV} : actFault s ls p (nk a) = actFault s ls p a := rfl
theorem OwnActs.keepLen {w : World} {B : Nat} {v : Value} {ys : List AV} (h : OwnActs w B v ys) : True := trivial
/-- Acts that are read of a text. -/
def ReadTo (s : Int) (ls : List (Int × Int)) (p : Int) (t : List UInt8) (w w' : World) (e : Ending) : Prop := ∃ (ao : Option Addr) (cp : Nat) (ys : List AV),
  e = .returned (.tuple #[.slice ao ys.length cp, .int .i64 (rdAll s ls p t).2.1, .int .i64 (rdAll s ls p t).2.2]) ∧ OwnActs w' w.heap.size (.slice ao ys.length cp) ys ∧ ys.map nk = (rdAll s ls p t).1 ∧ (∀ y ∈ ys, y.keep.length = y.kl) ∧ Below w.heap.size w w'
theorem act_cells (X : World) (y : AV) (q : Nat) (hq : q = X.heap.size) : ∀ j, j < 12 → (X.alloc (.cells y.cells.toArray 41)).cell? ⟨q, j, none⟩ = some (y.cells.getD j (.bool false)) := by
  subst hq
  intro j hj
  exact ((boxn_new X y.cells.toArray 41 12 rfl).c j hj).1
theorem av_len2 (x : AV) : x.cells.length = 12 := rfl
theorem av_one2 (y : AV) : ∀ u ∈ y.cells, u.oneCell' = true := by
  intro u hu
  simp only [AV.cells, List.mem_cons, List.not_mem_nil, or_false] at hu
  rcases hu with rfl | rfl | rfl | rfl | rfl | rfl | rfl | rfl | rfl | rfl | rfl | rfl <;> rfl
theorem avInfo2 : (Tryd.prog.info? 41).map (fun i => (i.zero, i.size, i.bytes)) = some (some (.agg #[.int .i64 0, .int .i64 0, .int .i64 0, .int .i64 0, .int .i64 0, .slice none 0 0, .int .i64 0, .int .i64 0, .int .i64 0, .int .i64 0, .int .i64 0, .string ⟨#[]⟩]), 12, 120) := by kernel_rfl
theorem avElem2 : ∃ i, Elem 12 AV.cells 41 25 i (.agg #[.int .i64 0, .int .i64 0, .int .i64 0, .int .i64 0, .int .i64 0, .slice none 0 0, .int .i64 0, .int .i64 0, .int .i64 0, .int .i64 0, .int .i64 0, .string ⟨#[]⟩]) 120 := by
  obtain ⟨j0, hj, lj0, lj1, lj2⟩ := info_parts avInfo2
  exact ⟨j0, av_len2, by decide, av_one2, Tryd.underlying25, hj, lj0, lj1, lj2, rfl⟩
theorem av1 (X : World) (y : AV) (q : Nat) (hq : q = X.heap.size) : IsRow 12 AV.cells (X.alloc (.cells y.cells.toArray 41)) (some ⟨q, 0, none⟩) 1 1 [y] := by
  subst hq
  have b := boxn_new X y.cells.toArray 41 12 rfl
  refine ⟨rfl, Nat.le_refl _, by unfold maxLen; omega, nofun, fun _ => ⟨_, 0, rfl, b.lt, fun i hi j hj => ?_⟩⟩
  obtain rfl : i = 0 := by omega
  rw [Nat.zero_mul, Nat.zero_add, (b.c j hj).1]
  have hl : j < y.cells.length := hj
  simp [List.getD, List.getElem?_eq_getElem hl]
theorem lowA {w : World} {B C : Nat} {v : Value} {ys : List AV} (h : OwnActs w C v ys) (hB : B ≤ C) : OwnActs w B v ys := ⟨ownB h.row hB, fun y hy => ⟨ownB (h.keeps y hy).1 hB, (h.keeps y hy).2⟩⟩
theorem flat_av (ys : List AV) : St.flat AV.cells ys = flatActs ys := rfl
theorem rd_step {s : Int} {ls : List (Int × Int)} {p : Int} {t : List UInt8} {k : Nat} {acc : List AV} {R : List AV × Int × Int} (h : R = rdL s ls p k acc (spc 10 t)) (h0 : t ≠ []) :
    (k = 3000 → R = ([], (k : Int), 1)) ∧ (k ≠ 3000 → (cutC 10 t).2.2 = false ∨ (lnAct (cutC 10 t).1).isSome = false → R = ([], (k : Int), 4)) ∧
    (k ≠ 3000 → (cutC 10 t).2.2 = true → ∀ a, lnAct (cutC 10 t).1 = some a → actFault s ls p a ≠ 0 → R = ([], (k : Int), actFault s ls p a)) ∧
    (k ≠ 3000 → (cutC 10 t).2.2 = true → ∀ a, lnAct (cutC 10 t).1 = some a → actFault s ls p a = 0 → R = rdL s ls p (k + 1) (acc ++ [a]) (spc 10 (cutC 10 t).2.1)) := by
  rw [rdL_cut, if_neg h0] at h
  refine ⟨fun hk => ?_, fun hk hc => ?_, fun hk hc a ha hf => ?_, fun hk hc a ha hf => ?_⟩
  · rw [if_pos hk] at h; exact h
  · rw [if_neg hk] at h
    rcases hc with hc | hc
    · rw [if_pos hc] at h; exact h
    · have hn : lnAct (cutC 10 t).1 = none := by simpa using hc
      rw [hn] at h
      split at h <;> exact h
  · rw [if_neg hk, if_neg (by simp [hc]), ha] at h
    simp only [if_neg hf] at h
    exact h
  · rw [if_neg hk, if_neg (by simp [hc]), ha] at h
    simp only [if_pos hf] at h
    exact h
set_option maxRecDepth 100000 in
set_option maxHeartbeats 8000000 in
theorem read_any (s p : Int) (a : Option Addr) (len cap : Nat) (ls : List (Int × Int)) (t : List UInt8) (w : World) (h : IsLabs w a len cap ls) (hl : t.length ≤ 140737488355328) (hT : ∀ U, Below w.heap.size w U → RdT U) :
    Calls Tryd.prog 11 #[.agg #[.int .i64 s, .slice a len cap, .int .i64 p], .string ⟨t.toArray⟩] w fun e w' => ReadTo s ls p t w w' e := by
  obtain ⟨iA, EA⟩ := avElem2
  obtain ⟨W, hW⟩ : ∃ W : World, W = w.alloc (.cells #[.int .i64 s, .slice a len cap, .int .i64 p] 24) := ⟨_, rfl⟩
  have bW : Below w.heap.size w W := by rw [hW]; exact (Below.refl _ _).alloc (Nat.le_refl _) _
  have bx : BoxN W w.heap.size 3 [.int .i64 s, .slice a len cap, .int .i64 p] := by rw [hW]; exact boxn_new w #[.int .i64 s, .slice a len cap, .int .i64 p] 24 3 rfl
  have HL : Hid (∀ U, Below w.heap.size w U → IsLabs U a len cap ls) := fun U hU => h.below hU
  have HT : Hid (∀ U, Below w.heap.size w U → RdT U) := hT
  have HX : Hid (∀ U, Below W.heap.size W U → BoxN U w.heap.size 3 [.int .i64 s, .slice a len cap, .int .i64 p] ∧ Below w.heap.size w U) := fun U hU => ⟨bx.below hU bx.lt, bW.trans (hU.mono bW.size)⟩
  have x0 : W.cell? ⟨w.heap.size, 0, none⟩ = some (.int .i64 s) := (bx.c 0 (by decide)).1
  have x1 : W.cell? ⟨w.heap.size, 1, none⟩ = some (.slice a len cap) := (bx.c 1 (by decide)).1
  have x2 : W.cell? ⟨w.heap.size, 2, none⟩ = some (.int .i64 p) := (bx.c 2 (by decide)).1
  have zx := bx.lt
  have hCk := fun U (hU : Below w.heap.size w U) => check_any s p a len cap ls U (HL.out U hU)
  have hck := hCk W bW
  obtain ⟨F, eF⟩ : ∃ F, F = cfgFault s ls p := ⟨_, rfl⟩
  obtain ⟨R, eR⟩ : ∃ R, R = rdAll s ls p t := ⟨_, rfl⟩
  have HR : Hid (R = if F ≠ 0 then ([], 0, F) else rdL s ls p 0 [] (spc 10 t)) := by show _ = _; rw [eR, eF]; rfl
  have HFin : Hid (∀ (w' : World) (ao : Option Addr) (cp : Nat) (ys : List AV) (k e : Int), R = (ys.map nk, k, e) → OwnActs w' w.heap.size (.slice ao ys.length cp) ys → (∀ y ∈ ys, y.keep.length = y.kl) → Below w.heap.size w w' → ReadTo s ls p t w w' (.returned (.tuple #[.slice ao ys.length cp, .int .i64 k, .int .i64 e]))) := fun w' ao cp ys k e h1 h2 h3 h4 =>
    ⟨ao, cp, ys, by rw [← eR, h1], h2, by rw [← eR, h1], h3, h4⟩
  rw [← eF] at hck
  clear eR eF hCk hT h bx
  go_enter Tryd.func11, Tryd.ntmps11
  go_upto_region 1 with (fail)
  rw [← hW]
  clear hW
  by_cases hF : F = 0
  · have hF2 : (F != 0) = false := by simp [hF]
    have HR1 : Hid (R = rdL s ls p 0 (([] : List AV).map nk) (spc 10 t)) := by show _ = _; rw [HR.out, if_neg (by simp [hF])]; rfl
    clear HR hF
    go_upto_region 2 with (go_at_call 19; refine hck.mono ?_; rintro e u0 ⟨rfl, hu0⟩)
    have HB0 : Hid (Below W.heap.size W u0) := hu0
    clear hu0 hck x0 x1 x2 zx
    go_upto_region 6 with (fail)
    go_loopg [1, 8, 9] (t.length) (fun m s1 s8 s9 wr => ∃ (t' : List UInt8) (ao : Option Addr) (cp : Nat) (ys : List AV) (k : Nat), s1 = .string ⟨t'.toArray⟩ ∧ s8 = .slice ao ys.length cp ∧ s9 = .int .i64 (k : Int) ∧ k ≤ 3000 ∧ Hid (ys.length = k) ∧ Hid (t'.length ≤ m ∧ t'.length ≤ t.length) ∧ Hid (OwnActs wr W.heap.size (.slice ao ys.length cp) ys) ∧ Hid (R = rdL s ls p k (ys.map nk) (spc 10 t')) ∧ Hid (∀ y ∈ ys, y.keep.length = y.kl) ∧ Hid (Below W.heap.size W wr))
    case atStart => exact ⟨t, none, 0, [], 0, rfl, rfl, rfl, by omega, rfl, ⟨Nat.le_refl _, Nat.le_refl _⟩, ownActs_nil _ _, HR1, (by intro y hy; cases hy), HB0⟩
    case round =>
      clear HR1 HB0
      obtain ⟨t', ao, cp, ys, k, rfl, rfl, rfl, hk3, HK, HM, HO, HRk, HKl, HB⟩ := hrel
      obtain ⟨wo, ewo⟩ : ∃ X : World, X = wr := ⟨_, rfl⟩
      subst ewo
      have hbw := (HX.out wo HB.out).2
      have HE : Hid (∀ (u : World) (kk e : Int), Below wo.heap.size wo u → R = ([], kk, e) → ReadTo s ls p t w u (.returned (.tuple #[.slice none 0 0, .int .i64 kk, .int .i64 e]))) := fun u kk e hu h1 => HFin.out u none 0 [] kk e h1 (ownActs_nil _ _) (by intro y hy; cases hy) (hbw.trans (hu.mono hbw.size))
      by_cases ht : t' = []
      · subst ht
        have HE2 : Hid (ReadTo s ls p t w wo (.returned (.tuple #[.slice ao ys.length cp, .int .i64 0, .int .i64 0]))) := HFin.out wo ao cp ys 0 0 (by rw [HRk.out, rdL_cut, if_pos rfl]) (lowA HO.out bW.size) HKl.out hbw
        clear HE HRk HO HB HKl HK HM hbw
        go_wp2
        go_ret3
        exact HE2.out
      · have ht2 : (t'.isEmpty) = false := by cases t' with | nil => exact absurd rfl ht | cons _ _ => rfl
        obtain ⟨j1, j2, j3, j4⟩ := rd_step HRk.out ht
        have hpos : 0 < t'.length := by cases t' with | nil => exact absurd rfl ht | cons _ _ => simp
        by_cases hk : k = 3000
        · have HE2 : Hid (ReadTo s ls p t w wo (.returned (.tuple #[.slice none 0 0, .int .i64 (k : Int), .int .i64 1]))) := HE.out wo _ _ (Below.refl _ _) (j1 hk)
          have hk2 : ((k : Int) == 3000) = true := by simp [hk]
          clear HE HRk HO HB HKl HK HM hbw j1 j2 j3 j4 hk
          go_wp2
          go_ret3
          exact HE2.out
        · have hk2 : ((k : Int) == 3000) = false := by simp; omega
          have hcut := cut_any ⟨t'.toArray⟩ 10 wo (by show t'.toArray.size ≤ _; have := HM.out; simp; omega)
          simp only at hcut
          have J2 : Hid ((cutC 10 t').2.2 = false ∨ (lnAct (cutC 10 t').1).isSome = false → R = ([], (k : Int), 4)) := j2 hk
          have J3 : Hid ((cutC 10 t').2.2 = true → ∀ a, lnAct (cutC 10 t').1 = some a → actFault s ls p a ≠ 0 → R = ([], (k : Int), actFault s ls p a)) := j3 hk
          have J4 : Hid ((cutC 10 t').2.2 = true → ∀ a, lnAct (cutC 10 t').1 = some a → actFault s ls p a = 0 → R = rdL s ls p (k + 1) (ys.map nk ++ [a]) (spc 10 (cutC 10 t').2.1)) := j4 hk
          have hcl := cutC_len (c := 10) (r := t')
          have hcs := (cut_spc 10 t').2.1
          obtain ⟨A, eA⟩ : ∃ x, x = (cutC 10 t').1 := ⟨_, rfl⟩
          obtain ⟨T2, eT2⟩ : ∃ x, x = (cutC 10 t').2.1 := ⟨_, rfl⟩
          obtain ⟨E, eE⟩ : ∃ x, x = (cutC 10 t').2.2 := ⟨_, rfl⟩
          rw [← eA, ← eT2] at hcl
          rw [← eT2, ← eE] at hcs
          rw [← eA, ← eT2, ← eE] at hcut
          rw [← eE, ← eA] at J2 J3 J4
          rw [← eT2] at J4
          have HMs : Hid (T2.length ≤ t'.length ∧ (E = true → T2.length < t'.length) ∧ t'.length ≤ gk ∧ t'.length ≤ t.length ∧ 0 < t'.length) := ⟨hcl.2, fun h => (hcs h).2, HM.out.1, HM.out.2, hpos⟩
          have hAl : A.length ≤ 140737488355328 := by have := HM.out.2; omega
          have HRA : Hid (∀ u, Below wo.heap.size wo u → Calls Tryd.prog 29 #[.string ⟨A.toArray⟩] u fun e w' => ReadActTo A u w' e) := fun u hu => readAct_any A u hAl (fun U hU => HT.out U ((hbw.trans (hu.mono hbw.size)).trans (hU.mono (hbw.trans (hu.mono hbw.size)).size)))
          clear eA eT2 eE hcl hcs HM hpos j1 j2 j3 j4 hk HRk hAl ht
          go_upto_region 11 with (go_at_call 28; refine hcut.mono ?_; rintro e u1 ⟨rfl, hu1⟩)
          have hra := HRA.out u1 hu1
          clear hcut
          obtain ⟨OKb, eOK⟩ : ∃ x, x = (lnAct A).isSome := ⟨_, rfl⟩
          have HOK : Hid (OKb = (lnAct A).isSome) := eOK
          have HRA2 : Hid (∀ e u2, ReadActTo A u1 u2 e → ∃ a : AV, e = .returned (.tuple #[.agg a.cells.toArray, .bool OKb]) ∧ u2.ownsRow u1.heap.size 3 1 (.slice a.ka a.kl a.kc) a.kl (a.keep.map (Value.int .i64)) ∧ Nums a.keep ∧ a.keep.length = a.kl ∧ (∀ x, lnAct A = some x → x = nk a) ∧ Below u1.heap.size u1 u2) := fun e u2 ⟨a, h1, h2⟩ => ⟨a, by rw [eOK]; exact h1, h2⟩
          have HU1 : Hid (Below wo.heap.size wo u1) := hu1
          clear eOK hu1
          go_upto_region 12 with (go_at_call 29; refine hra.mono ?_; intro e u2 hr2; obtain ⟨y, he, hown, hnums, hkl, hV, hu2⟩ := HRA2.out e u2 hr2; obtain ⟨kd, st, to1, lb, pk1, ka, kl, kc, c0, c1, c2, c3, c4, ln, kp⟩ := y; have he2 : e = .returned (.tuple #[.agg #[.int .i64 kd, .int .i64 st, .int .i64 to1, .int .i64 lb, .int .i64 pk1, .slice ka kl kc, .int .i64 c0, .int .i64 c1, .int .i64 c2, .int .i64 c3, .int .i64 c4, .string ln], .bool OKb]) := he; subst he2)
          have HV : Hid (∀ x, lnAct A = some x → x = nk ⟨kd, st, to1, lb, pk1, ka, kl, kc, c0, c1, c2, c3, c4, ln, kp⟩) := hV
          have HOw : Hid (u2.ownsRow u1.heap.size 3 1 (.slice ka kl kc) kl (kp.map (Value.int .i64)) ∧ Nums kp ∧ kp.length = kl) := ⟨hown, hnums, hkl⟩
          obtain ⟨Y, hY⟩ : ∃ Y : World, Y = u2.alloc (.cells #[.int .i64 kd, .int .i64 st, .int .i64 to1, .int .i64 lb, .int .i64 pk1, .slice ka kl kc, .int .i64 c0, .int .i64 c1, .int .i64 c2, .int .i64 c3, .int .i64 c4, .string ln] 41) := ⟨_, rfl⟩
          have bY : Below u2.heap.size u2 Y := by rw [hY]; exact (Below.refl _ _).alloc (Nat.le_refl _) _
          have bxA : BoxN Y u2.heap.size 12 [.int .i64 kd, .int .i64 st, .int .i64 to1, .int .i64 lb, .int .i64 pk1, .slice ka kl kc, .int .i64 c0, .int .i64 c1, .int .i64 c2, .int .i64 c3, .int .i64 c4, .string ln] := by rw [hY]; exact boxn_new u2 #[.int .i64 kd, .int .i64 st, .int .i64 to1, .int .i64 lb, .int .i64 pk1, .slice ka kl kc, .int .i64 c0, .int .i64 c1, .int .i64 c2, .int .i64 c3, .int .i64 c4, .string ln] 41 12 rfl
          rw [← hY]
          have b0Y : Below wo.heap.size wo Y := (HU1.out.trans (hu2.mono HU1.out.size)).trans (bY.mono (Nat.le_trans HU1.out.size hu2.size))
          have HbY : Hid (Below wo.heap.size wo Y) := b0Y
          have hbR := HE.out Y (k : Int) 4 b0Y
          have HE4 : Hid (R = ([], (k : Int), 4) → ReadTo s ls p t w Y (.returned (.tuple #[.slice none 0 0, .int .i64 (k : Int), .int .i64 4]))) := hbR
          have HbA : Hid (BoxN Y u2.heap.size 12 [.int .i64 kd, .int .i64 st, .int .i64 to1, .int .i64 lb, .int .i64 pk1, .slice ka kl kc, .int .i64 c0, .int .i64 c1, .int .i64 c2, .int .i64 c3, .int .i64 c4, .string ln]) := bxA
          have HO2 : Hid (u1.heap.size ≤ u2.heap.size ∧ Y.ownsRow u1.heap.size 3 1 (.slice ka kl kc) kl (kp.map (Value.int .i64))) := ⟨hu2.size, own_below hown bY⟩
          clear hY hV hown hnums hkl bY bxA hu2 b0Y hbR hra HRA2
          by_cases hEO : E = true ∧ OKb = true
          · obtain ⟨hE1, hO1⟩ := hEO
            subst hE1 hO1
            obtain ⟨a0, ha0⟩ : ∃ a0, lnAct A = some a0 := by
              cases h : lnAct A with
              | none => have := HOK.out; rw [h] at this; cases this
              | some a0 => exact ⟨a0, rfl⟩
            have hnk := HV.out a0 ha0
            subst hnk
            obtain ⟨bx3, bwY⟩ := HX.out Y (HB.out.trans (HbY.out.mono HB.out.size))
            have x0 : Y.cell? ⟨w.heap.size, 0, none⟩ = some (.int .i64 s) := (bx3.c 0 (by decide)).1
            have x1 : Y.cell? ⟨w.heap.size, 1, none⟩ = some (.slice a len cap) := (bx3.c 1 (by decide)).1
            have x2 : Y.cell? ⟨w.heap.size, 2, none⟩ = some (.int .i64 p) := (bx3.c 2 (by decide)).1
            have y0 : Y.cell? ⟨u2.heap.size, 0, none⟩ = some (.int .i64 kd) := (HbA.out.c 0 (by decide)).1
            have y1 : Y.cell? ⟨u2.heap.size, 1, none⟩ = some (.int .i64 st) := (HbA.out.c 1 (by decide)).1
            have y2 : Y.cell? ⟨u2.heap.size, 2, none⟩ = some (.int .i64 to1) := (HbA.out.c 2 (by decide)).1
            have y3 : Y.cell? ⟨u2.heap.size, 3, none⟩ = some (.int .i64 lb) := (HbA.out.c 3 (by decide)).1
            have y4 : Y.cell? ⟨u2.heap.size, 4, none⟩ = some (.int .i64 pk1) := (HbA.out.c 4 (by decide)).1
            have y5 : Y.cell? ⟨u2.heap.size, 5, none⟩ = some (.slice ka kl kc) := (HbA.out.c 5 (by decide)).1
            have y6 : Y.cell? ⟨u2.heap.size, 6, none⟩ = some (.int .i64 c0) := (HbA.out.c 6 (by decide)).1
            have y7 : Y.cell? ⟨u2.heap.size, 7, none⟩ = some (.int .i64 c1) := (HbA.out.c 7 (by decide)).1
            have y8 : Y.cell? ⟨u2.heap.size, 8, none⟩ = some (.int .i64 c2) := (HbA.out.c 8 (by decide)).1
            have y9 : Y.cell? ⟨u2.heap.size, 9, none⟩ = some (.int .i64 c3) := (HbA.out.c 9 (by decide)).1
            have y10 : Y.cell? ⟨u2.heap.size, 10, none⟩ = some (.int .i64 c4) := (HbA.out.c 10 (by decide)).1
            have y11 : Y.cell? ⟨u2.heap.size, 11, none⟩ = some (.string ln) := (HbA.out.c 11 (by decide)).1
            have zx := bx3.lt
            have zy := HbA.out.lt
            have hints : IsInts Y ka kl kc kp := ints_of_own HO2.out.2 HOw.out.2.1
            have tb := (HT.out Y bwY).ln
            have hCk : Calls Tryd.prog 20 #[.agg #[.int .i64 s, .slice a len cap, .int .i64 p], .agg #[.int .i64 kd, .int .i64 st, .int .i64 to1, .int .i64 lb, .int .i64 pk1, .slice ka kl kc, .int .i64 c0, .int .i64 c1, .int .i64 c2, .int .i64 c3, .int .i64 c4, .string ln]] Y fun e w' => e = .returned (.int .i64 (actFault s ls p ⟨kd, st, to1, lb, pk1, ka, kl, kc, c0, c1, c2, c3, c4, ln, kp⟩)) ∧ Below Y.heap.size Y w' := check_act s p a len cap ls ⟨kd, st, to1, lb, pk1, ka, kl, kc, c0, c1, c2, c3, c4, ln, kp⟩ Y (HL.out Y bwY) hints tb.2.1 tb.2.2.2.1 tb.2.2.2.2.2
            have J3b : Hid (actFault s ls p ⟨kd, st, to1, lb, pk1, ka, kl, kc, c0, c1, c2, c3, c4, ln, kp⟩ ≠ 0 → R = ([], (k : Int), actFault s ls p ⟨kd, st, to1, lb, pk1, ka, kl, kc, c0, c1, c2, c3, c4, ln, kp⟩)) := by have := J3.out rfl _ ha0; rw [nk_fault] at this; exact this
            have J4b : Hid (actFault s ls p ⟨kd, st, to1, lb, pk1, ka, kl, kc, c0, c1, c2, c3, c4, ln, kp⟩ = 0 → R = rdL s ls p (k + 1) (ys.map nk ++ [nk ⟨kd, st, to1, lb, pk1, ka, kl, kc, c0, c1, c2, c3, c4, ln, kp⟩]) (spc 10 T2)) := by have := J4.out rfl _ ha0; rw [nk_fault] at this; exact this
            obtain ⟨G, eG⟩ : ∃ G, G = actFault s ls p ⟨kd, st, to1, lb, pk1, ka, kl, kc, c0, c1, c2, c3, c4, ln, kp⟩ := ⟨_, rfl⟩
            rw [← eG] at J3b J4b hCk
            clear eG ha0 hints tb bx3 bwY J2 J3 J4 HV HOK
            by_cases hG : G = 0
            · have hG2 : (G != 0) = false := by simp [hG]
              have HR2 : Hid (R = rdL s ls p (k + 1) ((ys ++ [(⟨kd, st, to1, lb, pk1, ka, kl, kc, c0, c1, c2, c3, c4, ln, kp⟩ : AV)]).map nk) (spc 10 T2)) := by show _ = _; rw [J4b.out hG, List.map_append]; rfl
              have HKs : ys.length ≤ 3000 := by have := HK.out; omega
              have HJ : Hid (k + 1 ≤ 3000 ∧ ys.length = k) := ⟨by have := hk2; simp at this; omega, HK.out⟩
              have hzw : W.heap.size ≤ Y.heap.size := Nat.le_trans HB.out.size HbY.out.size
              have hzu : W.heap.size ≤ u1.heap.size := Nat.le_trans HB.out.size HU1.out.size
              have HPush : Hid (∀ (u3 w5 : World) (a5 : Option Addr) (c5 : Nat), Below Y.heap.size Y u3 → w5.ownsRow W.heap.size 41 12 (.slice a5 (ys.length + 1) c5) (ys.length + 1) (St.flat AV.cells (ys ++ [(⟨kd, st, to1, lb, pk1, ka, kl, kc, c0, c1, c2, c3, c4, ln, kp⟩ : AV)])) → (u3.alloc (.cells #[.int .i64 kd, .int .i64 st, .int .i64 to1, .int .i64 lb, .int .i64 pk1, .slice ka kl kc, .int .i64 c0, .int .i64 c1, .int .i64 c2, .int .i64 c3, .int .i64 c4, .string ln] 41)).grownBy w5 (Value.slice ao ys.length cp).ownBlock → OwnActs w5 W.heap.size (.slice a5 (ys.length + 1) c5) (ys ++ [(⟨kd, st, to1, lb, pk1, ka, kl, kc, c0, c1, c2, c3, c4, ln, kp⟩ : AV)]) ∧ Below W.heap.size W w5) := fun u3 w5 a5 c5 h1 h2 h3 => by
                have b1 : Below wo.heap.size wo u3 := HbY.out.trans (h1.mono HbY.out.size)
                have b2 : Below wo.heap.size wo (u3.alloc (.cells #[.int .i64 kd, .int .i64 st, .int .i64 to1, .int .i64 lb, .int .i64 pk1, .slice ka kl kc, .int .i64 c0, .int .i64 c1, .int .i64 c2, .int .i64 c3, .int .i64 c4, .string ln] 41)) := b1.alloc b1.size _
                refine ⟨OwnActs.push HO.out b2 (ownB (own_below (own_below HO2.out.2 h1) ((Below.refl _ _).alloc (Nat.le_refl _) _)) hzu) HOw.out.2.1 ?_ h3, ?_⟩
                · rw [flat_av, flatActs_append] at h2
                  exact h2
                · have b3 : Below W.heap.size W (u3.alloc (.cells #[.int .i64 kd, .int .i64 st, .int .i64 to1, .int .i64 lb, .int .i64 pk1, .slice ka kl kc, .int .i64 c0, .int .i64 c1, .int .i64 c2, .int .i64 c3, .int .i64 c4, .string ln] 41)) := HB.out.trans (b2.mono HB.out.size)
                  exact b3.grown h3 b3.size (fun g hg => by have := (HO.out.row.lt g hg).1; exact this)
              have HKl2 : Hid (∀ y ∈ ys ++ [(⟨kd, st, to1, lb, pk1, ka, kl, kc, c0, c1, c2, c3, c4, ln, kp⟩ : AV)], y.keep.length = y.kl) := by
                intro y hy
                rcases List.mem_append.1 hy with h | h
                · exact HKl.out y h
                · simp only [List.mem_singleton] at h
                  rw [h]
                  exact HOw.out.2.2
              have HOr : Hid (∀ u3, Below Y.heap.size Y u3 → u3.ownsRow W.heap.size 41 12 (.slice ao ys.length cp) ys.length (St.flat AV.cells ys) ∧ W.heap.size ≤ u3.heap.size) := fun u3 hu3 => ⟨own_below HO.out.row (HbY.out.trans (hu3.mono HbY.out.size)), Nat.le_trans hzw hu3.size⟩
              have HyA : Hid (∀ u3, Below Y.heap.size Y u3 → BoxN u3 u2.heap.size 12 [.int .i64 kd, .int .i64 st, .int .i64 to1, .int .i64 lb, .int .i64 pk1, .slice ka kl kc, .int .i64 c0, .int .i64 c1, .int .i64 c2, .int .i64 c3, .int .i64 c4, .string ln]) := fun u3 hu3 => HbA.out.below hu3 HbA.out.lt
              clear J4b hG HE HE4 HO HKl HB HFin HbY HbA HO2 HOw HK hzw hzu hbw
              go_upto_region 15 with (go_at_call 20; refine hCk.mono ?_; rintro e u3 ⟨rfl, hu3⟩)
              have bx4 := HyA.out u3 hu3
              clear x0 x1 x2 y0 y1 y2 y3 y4 y5 y6 y7 y8 y9 y10 y11 zx zy hCk
              have y0 : u3.cell? ⟨u2.heap.size, 0, none⟩ = some (.int .i64 kd) := (bx4.c 0 (by decide)).1
              have y1 : u3.cell? ⟨u2.heap.size, 1, none⟩ = some (.int .i64 st) := (bx4.c 1 (by decide)).1
              have y2 : u3.cell? ⟨u2.heap.size, 2, none⟩ = some (.int .i64 to1) := (bx4.c 2 (by decide)).1
              have y3 : u3.cell? ⟨u2.heap.size, 3, none⟩ = some (.int .i64 lb) := (bx4.c 3 (by decide)).1
              have y4 : u3.cell? ⟨u2.heap.size, 4, none⟩ = some (.int .i64 pk1) := (bx4.c 4 (by decide)).1
              have y5 : u3.cell? ⟨u2.heap.size, 5, none⟩ = some (.slice ka kl kc) := (bx4.c 5 (by decide)).1
              have y6 : u3.cell? ⟨u2.heap.size, 6, none⟩ = some (.int .i64 c0) := (bx4.c 6 (by decide)).1
              have y7 : u3.cell? ⟨u2.heap.size, 7, none⟩ = some (.int .i64 c1) := (bx4.c 7 (by decide)).1
              have y8 : u3.cell? ⟨u2.heap.size, 8, none⟩ = some (.int .i64 c2) := (bx4.c 8 (by decide)).1
              have y9 : u3.cell? ⟨u2.heap.size, 9, none⟩ = some (.int .i64 c3) := (bx4.c 9 (by decide)).1
              have y10 : u3.cell? ⟨u2.heap.size, 10, none⟩ = some (.int .i64 c4) := (bx4.c 10 (by decide)).1
              have y11 : u3.cell? ⟨u2.heap.size, 11, none⟩ = some (.string ln) := (bx4.c 11 (by decide)).1
              have zy := bx4.lt
              obtain ⟨hO3, hz3⟩ := HOr.out u3 hu3
              have HU3 : Hid (Below Y.heap.size Y u3) := hu3
              clear bx4 hu3
              go_wp2_with (at_builtin; go_loud (refine St.wpList_append_row EA (by rfl) _ _ (by rfl) W.heap.size (.slice ao ys.length cp) ys.length ys (by rfl) (own_below hO3 ((Below.refl _ _).alloc (Nat.le_refl _) _)) _ 1 1 [(⟨kd, st, to1, lb, pk1, ka, kl, kc, c0, c1, c2, c3, c4, ln, kp⟩ : AV)] (by rfl) (av1 u3 ⟨kd, st, to1, lb, pk1, ka, kl, kc, c0, c1, c2, c3, c4, ln, kp⟩ _ rfl) (by unfold maxLen; omega) (by omega) (by simp; omega) ?_; intro a5 c5 w5 own5 gr5 at5; have HP5 : Hid (OwnActs w5 W.heap.size (.slice a5 (ys.length + 1) c5) (ys ++ [(⟨kd, st, to1, lb, pk1, ka, kl, kc, c0, c1, c2, c3, c4, ln, kp⟩ : AV)]) ∧ Below W.heap.size W w5) := HPush.out u3 w5 a5 c5 HU3.out own5 gr5))
              go_roundg (gk - 1)
              case rel => exact ⟨T2, a5, c5, ys ++ [(⟨kd, st, to1, lb, pk1, ka, kl, kc, c0, c1, c2, c3, c4, ln, kp⟩ : AV)], k + 1, rfl, by rw [List.length_append]; rfl, by go_num, HJ.out.1, by show _ = _; rw [List.length_append, HJ.out.2]; rfl, by have := HMs.out; exact ⟨by have := this.2.1 (by first | rfl | trivial); omega, by omega⟩, by rw [List.length_append]; exact HP5.out.1, HR2, HKl2, HP5.out.2⟩
              case measure => have := HMs.out; omega
            · have hG2 : (G != 0) = true := by simp [hG]
              have HEG : Hid (∀ u, Below Y.heap.size Y u → ReadTo s ls p t w u (.returned (.tuple #[.slice none 0 0, .int .i64 (k : Int), .int .i64 G]))) := fun u hu => HE.out u (k : Int) G (HbY.out.trans (hu.mono HbY.out.size)) (J3b.out hG)
              clear J3b J4b hG HE HE4 HO HKl HB HFin HbY HbA HO2 HOw
              go_wp2_with (go_at_call 20; refine hCk.mono ?_; rintro e u3 ⟨rfl, hu3⟩; have hE := HEG.out u3 hu3)
              go_ret3
              exact hE
          · have HE5 := HE4.out (J2.out (by
              cases hE2 : E with
              | false => exact Or.inl rfl
              | true =>
                cases hO2 : OKb with
                | false => exact Or.inr (by rw [← HOK.out]; exact hO2)
                | true => exact absurd ⟨hE2, hO2⟩ hEO))
            clear J2 J3 J4 HE HE4 HO HKl HB HFin HbY HbA HO2 HOw HV HOK hbw
            cases E <;> cases OKb
            case true.true => exact absurd ⟨rfl, rfl⟩ hEO
            all_goals
              clear hEO
              go_wp2
              go_ret3
              exact HE5
  · have hF2 : (F != 0) = true := by simp [hF]
    have HE : Hid (∀ u, Below w.heap.size w u → ReadTo s ls p t w u (.returned (.tuple #[.slice none 0 0, .int .i64 0, .int .i64 F]))) := fun u hu => HFin.out u none 0 [] 0 F (by rw [HR.out, if_pos hF]; rfl) (ownActs_nil _ _) (by intro y hy; cases hy) hu
    clear hF HR HFin
    go_wp2_with (go_at_call 19; refine hck.mono ?_; rintro e u0 ⟨rfl, hu0⟩; have hE := HE.out u0 (bW.trans (hu0.mono bW.size)))
    go_ret3
    exact hE
end Go.Proofs.YtlaagfnoepcnlaaDoor.Ln
/- The document's ActsOf: acts of a text. -/
namespace Go.Proofs.YtlaagfnoepcnlaaDoor.Ln
open Go.ChangeShapes Go.WideShapes Go.ChangeAt Go.RowKit
open Go.Proofs.YtlaagfnoepcnlaaDoor.St (BoxN boxn_new own_below IsRow Elem own_isRow)
set_option linter.unusedVariables false

/-- Acts that the document reads of a text. -/
def ActsOfTo (s : Int) (ls : List (Int × Int)) (p : Int) (t : List UInt8) (w w' : World) (e : Ending) : Prop := ∃ (ao : Option Addr) (cp : Nat) (ys : List AV),
  e = .returned (.tuple #[.slice ao ys.length cp, .int .i64 (rdAll s ls p t).2.1, .int .i64 (rdAll s ls p t).2.2]) ∧ DcActs w' w.heap.size (.slice ao ys.length cp) ys ∧ ys.map nk = (rdAll s ls p t).1 ∧ Below w.heap.size w w'
theorem DcActs.low {w : World} {B C : Nat} {v : Value} {ys : List AV} (h : DcActs w C v ys) (hB : B ≤ C) : DcActs w B v ys := ⟨ownB h.row hB, fun y hy => (h.keeps y hy).low hB⟩
theorem slice_text (t : List UInt8) (f e : Nat) (hf : f ≤ e) (he : e ≤ t.length) (U : World) : (Instr.slice 9 (.string ⟨t.toArray⟩) (some (.int .i64 (f : Int))) (some (.int .i64 (e : Int))) none).run Tryd.prog U = .ok (.string ⟨((t.drop f).take (e - f)).toArray⟩) U := by
  rw [slice_at ⟨t.toArray⟩ f e hf he U]
  congr 2
  have h := ext_list ⟨t.toArray⟩ f e hf he
  apply ByteArray.ext
  apply Array.toList_inj.1
  show (ByteArray.extract ⟨t.toArray⟩ f e).data.toList = _
  rw [h]
  show (t.take e).drop f = _
  rw [List.drop_take]
theorem cut_at {t : List UInt8} {f e : Nat} (hf : f ≤ e) (he : e ≤ t.length) (hn : ∀ c ∈ (t.drop f).take (e - f), c ≠ 10) (hr : e < t.length → ∃ r, t.drop e = 10 :: r) : (e = t.length → cutC 10 (t.drop f) = (t.drop f, [], false)) ∧ (e < t.length → cutC 10 (t.drop f) = ((t.drop f).take (e - f), t.drop (e + 1), true)) := by
  refine ⟨fun h => ?_, fun h => ?_⟩
  · have ha : (t.drop f).take (e - f) = t.drop f := List.take_of_length_le (by rw [List.length_drop]; omega)
    rw [ha] at hn
    exact cut_none hn
  · obtain ⟨r, hr⟩ := hr h
    have e1 : t.drop f = (t.drop f).take (e - f) ++ t.drop e := by
      have h2 := (List.take_append_drop (e - f) (t.drop f)).symm
      rw [List.drop_drop, show f + (e - f) = e by omega] at h2
      exact h2
    have e2 : r = t.drop (e + 1) := by
      have : t.drop (e + 1) = (t.drop e).drop 1 := by rw [List.drop_drop]
      rw [this, hr]
      rfl
    have h9 := cut_hit2 (d := 10) _ r hn
    rw [← hr, ← e1] at h9
    rw [h9, e2]
theorem kl6 {s p : Int} {ls : List (Int × Int)} {a : AV} (h6 : ls.length ≤ 6) (hc : cfgFault s ls p = 0) (hf : actFault s ls p a = 0) : a.kl ≤ 6 := by
  have hin : actIn s ls.length a = true := by
    unfold actFault at hf
    rw [if_neg (by simp [hc])] at hf
    split at hf
    · cases hf
    · split at hf
      · cases hf
      · rename_i h9; exact tr9 h9
  unfold actIn at hin
  simp only [Bool.and_eq_true, decide_eq_true_eq] at hin
  omega
set_option maxRecDepth 100000 in
set_option maxHeartbeats 16000000 in
theorem actsOf_any (s p : Int) (a : Option Addr) (len cap : Nat) (ls : List (Int × Int)) (t : List UInt8) (w : World) (h : IsLabs w a len cap ls) (hl : t.length ≤ 1048576) :
    Calls Tryd.prog 12 #[.agg #[.int .i64 s, .slice a len cap, .int .i64 p], .string ⟨t.toArray⟩] w fun e w' => ActsOfTo s ls p t w w' e := by
  obtain ⟨iA, EA⟩ := avElem2
  obtain ⟨W, hW⟩ : ∃ W : World, W = w.alloc (.cells #[.int .i64 s, .slice a len cap, .int .i64 p] 24) := ⟨_, rfl⟩
  have bW : Below w.heap.size w W := by rw [hW]; exact (Below.refl _ _).alloc (Nat.le_refl _) _
  have bx : BoxN W w.heap.size 3 [.int .i64 s, .slice a len cap, .int .i64 p] := by rw [hW]; exact boxn_new w #[.int .i64 s, .slice a len cap, .int .i64 p] 24 3 rfl
  have HL : Hid (∀ U, Below w.heap.size w U → IsLabs U a len cap ls) := fun U hU => h.below hU
  have HX : Hid (∀ U, Below W.heap.size W U → BoxN U w.heap.size 3 [.int .i64 s, .slice a len cap, .int .i64 p] ∧ Below w.heap.size w U) := fun U hU => ⟨bx.below hU bx.lt, bW.trans (hU.mono bW.size)⟩
  have x0 : W.cell? ⟨w.heap.size, 0, none⟩ = some (.int .i64 s) := (bx.c 0 (by decide)).1
  have x1 : W.cell? ⟨w.heap.size, 1, none⟩ = some (.slice a len cap) := (bx.c 1 (by decide)).1
  have x2 : W.cell? ⟨w.heap.size, 2, none⟩ = some (.int .i64 p) := (bx.c 2 (by decide)).1
  have zx := bx.lt
  have hck := fault_any s p a len cap ls W (HL.out W bW)
  obtain ⟨F, eF⟩ : ∃ F, F = cfgFault s ls p := ⟨_, rfl⟩
  obtain ⟨R, eR⟩ : ∃ R, R = rdAll s ls p t := ⟨_, rfl⟩
  have HF0 : Hid (F = cfgFault s ls p) := eF
  have HR : Hid (R = if F ≠ 0 then ([], 0, F) else rdL s ls p 0 [] (spc 10 t)) := by show _ = _; rw [eR, eF]; rfl
  have HFin : Hid (∀ (w' : World) (ao : Option Addr) (cp : Nat) (ys : List AV) (k e : Int), R = (ys.map nk, k, e) → DcActs w' w.heap.size (.slice ao ys.length cp) ys → Below w.heap.size w w' → ActsOfTo s ls p t w w' (.returned (.tuple #[.slice ao ys.length cp, .int .i64 k, .int .i64 e]))) := fun w' ao cp ys k e h1 h2 h3 =>
    ⟨ao, cp, ys, by rw [← eR, h1], h2, by rw [← eR, h1], h3⟩
  rw [← eF] at hck
  clear eR eF h bx
  go_enter Tryd.func12, Tryd.ntmps12
  go_upto_region 1 with (fail)
  rw [← hW]
  clear hW
  by_cases hF : F = 0
  · have hF2 : (F != 0) = false := by simp [hF]
    have HCf : Hid (cfgFault s ls p = 0) := by show _ = _; rw [← HF0.out, hF]
    have HR1 : Hid (R = rdL s ls p 0 (([] : List AV).map nk) (spc 10 (t.drop 0))) := by show _ = _; rw [HR.out, if_neg (by simp [hF])]; rfl
    clear HR hF HF0
    go_upto_region 2 with (go_at_call 25; refine hck.mono ?_; rintro e u0 ⟨rfl, hu0⟩)
    have HB0 : Hid (Below W.heap.size W u0) := hu0
    clear hu0 hck x0 x1 x2 zx
    go_upto_region 7 with (fail)
    go_loopw [8, 9, 10] (fun s8 s9 s10 wr => ∃ (f : Nat) (ao : Option Addr) (cp : Nat) (ys : List AV) (k : Nat), s8 = .slice ao ys.length cp ∧ s9 = .int .i64 (f : Int) ∧ s10 = .int .i64 (k : Int) ∧ k ≤ 3000 ∧ f ≤ t.length ∧ Hid (ys.length = k) ∧ Hid (DcActs wr W.heap.size (.slice ao ys.length cp) ys) ∧ Hid (R = rdL s ls p k (ys.map nk) (spc 10 (t.drop f))) ∧ Hid (Below W.heap.size W wr)) (fun _ s9 _ _ => t.length - (intOf s9).toNat)
    case atStart => exact ⟨0, none, 0, [], 0, rfl, rfl, rfl, by omega, by omega, rfl, dcActs_nil _ _, HR1, HB0⟩
    case round =>
      clear HR1 HB0
      obtain ⟨f, ao, cp, ys, k, rfl, rfl, rfl, hk3, hft, HK, HO, HRk, HB⟩ := hrel
      obtain ⟨wo, ewo⟩ : ∃ X : World, X = wr := ⟨_, rfl⟩
      subst ewo
      have hbw := (HX.out wo HB.out).2
      have HE : Hid (∀ (u : World) (kk e : Int), Below wo.heap.size wo u → R = ([], kk, e) → ActsOfTo s ls p t w u (.returned (.tuple #[.slice none 0 0, .int .i64 kk, .int .i64 e]))) := fun u kk e hu h1 => HFin.out u none 0 [] kk e h1 (dcActs_nil _ _) (hbw.trans (hu.mono hbw.size))
      by_cases hlt : f < t.length
      · have hlt' : (f : Int) < (t.length : Int) := by omega
        have ht : t.drop f ≠ [] := fun h9 => by have := congrArg List.length h9; simp at this; omega
        go_upto_region 10 with (fail)
        rename World => wo
        go_loopw [11] (fun s11 wr => ∃ e : Nat, s11 = .int .i64 (e : Int) ∧ f ≤ e ∧ e ≤ t.length ∧ Hid (∀ c ∈ (t.drop f).take (e - f), c ≠ 10) ∧ wr = wo) (fun s11 _ => t.length - (intOf s11).toNat)
        case atStart => exact ⟨f, rfl, Nat.le_refl _, hft, (by intro c hc; rw [Nat.sub_self, List.take_zero] at hc; cases hc), rfl⟩
        case round =>
          obtain ⟨e, rfl, hfe, het, hN, ewr⟩ := hrel
          subst ewr
          by_cases hel : e < t.length
          · have hel' : (e : Int) < (t.length : Int) := by omega
            obtain ⟨C, hC, hx, c, hcc, hd⟩ := idx_at t e hel
            by_cases h10 : C = 10
            · have hc10 : c = 10 := UInt8.toNat_inj.1 (by rw [hcc, h10]; rfl)
              have hM : Hid (e < t.length → ∃ r, t.drop e = 10 :: r) := fun _ => ⟨_, by rw [hd, hc10]⟩
              subst h10
              clear hd hcc hc10
              obtain ⟨j1, j2, j3, j4⟩ := rd_step HRk.out ht
              obtain ⟨q1, q2⟩ := cut_at hfe het hN.out hM.out
              by_cases hk : k = 3000
              · have HE2 : Hid (ActsOfTo s ls p t w wr (.returned (.tuple #[.slice none 0 0, .int .i64 (k : Int), .int .i64 1]))) := HE.out wr _ _ (Below.refl _ _) (j1 hk)
                have hk2 : ((k : Int) == 3000) = true := by simp [hk]
                clear HE HRk HO HB HK hbw j1 j2 j3 j4 q1 q2 hk ht hN hM
                go_wp2
                go_ret3
                exact HE2.out
              · have hk2 : ((k : Int) == 3000) = false := by simp; omega
                have hee' : ((e : Int) == (t.length : Int)) = false := beq_eq_false_iff_ne.2 (by omega)
                have hee'' : ¬ (e : Int) = (t.length : Int) := by omega
                rw [q2 hel] at j2 j3 j4
                have hsl := slice_text t f e hfe het
                obtain ⟨A, eA⟩ : ∃ A, A = (t.drop f).take (e - f) := ⟨_, rfl⟩
                have hAl : A.length ≤ 1048576 := by rw [eA, List.length_take, List.length_drop]; omega
                rw [← eA] at j2 j3 j4 hsl
                have J2 : Hid ((lnAct A).isSome = false → R = ([], (k : Int), 4)) := fun h9 => j2 hk (Or.inr h9)
                have J3 : Hid (∀ a, lnAct A = some a → actFault s ls p a ≠ 0 → R = ([], (k : Int), actFault s ls p a)) := j3 hk rfl
                have J4 : Hid (∀ a, lnAct A = some a → actFault s ls p a = 0 → R = rdL s ls p (k + 1) (ys.map nk ++ [a]) (spc 10 (t.drop (e + 1)))) := j4 hk rfl
                have hLA := lineAct_any A wr (by omega)
                obtain ⟨OKb, eOK⟩ : ∃ x, x = (dcAct (spc 32 A)).isSome := ⟨_, rfl⟩
                have HOK : Hid (OKb = (lnAct A).isSome) := by show _ = _; rw [eOK, lnAct_dc]; cases dcAct (spc 32 A) <;> rfl
                have HLA : Hid (∀ e1 u2, LineTo A wr u2 e1 → ∃ y : AV, e1 = .returned (.tuple #[.agg y.cells.toArray, .bool OKb]) ∧ KeepIn u2 wr.heap.size y ∧ (∀ x, lnAct A = some x → x = cap7 (nk y)) ∧ Below wr.heap.size wr u2) := fun e1 u2 ⟨y, h1, h2, h3, h4⟩ => ⟨y, by rw [eOK]; exact h1, h2, fun x hx => by
                  rw [lnAct_dc] at hx
                  cases hd : dcAct (spc 32 A) with
                  | none => rw [hd] at hx; cases hx
                  | some d => rw [hd] at hx; cases hx; rw [h3 d hd], h4⟩
                clear j1 j2 j3 j4 q1 q2 hk ht hN hM eA eOK HRk
                go_upto_region 17 with (go_at_call 30; refine hLA.mono ?_; intro e1 u2 hr2; obtain ⟨y, he, hkp, hV, hu2⟩ := HLA.out e1 u2 hr2; obtain ⟨kd, st, to1, lb, pk1, ka, kl, kc, c0, c1, c2, c3, c4, ln, kp⟩ := y; have he2 : e1 = .returned (.tuple #[.agg #[.int .i64 kd, .int .i64 st, .int .i64 to1, .int .i64 lb, .int .i64 pk1, .slice ka kl kc, .int .i64 c0, .int .i64 c1, .int .i64 c2, .int .i64 c3, .int .i64 c4, .string ln], .bool OKb]) := he; subst he2)
                have HV : Hid (∀ x, lnAct A = some x → x = cap7 (nk ⟨kd, st, to1, lb, pk1, ka, kl, kc, c0, c1, c2, c3, c4, ln, kp⟩)) := hV
                obtain ⟨Y, hY⟩ : ∃ Y : World, Y = u2.alloc (.cells #[.int .i64 kd, .int .i64 st, .int .i64 to1, .int .i64 lb, .int .i64 pk1, .slice ka kl kc, .int .i64 c0, .int .i64 c1, .int .i64 c2, .int .i64 c3, .int .i64 c4, .string ln] 41) := ⟨_, rfl⟩
                have bY : Below u2.heap.size u2 Y := by rw [hY]; exact (Below.refl _ _).alloc (Nat.le_refl _) _
                have bxA : BoxN Y u2.heap.size 12 [.int .i64 kd, .int .i64 st, .int .i64 to1, .int .i64 lb, .int .i64 pk1, .slice ka kl kc, .int .i64 c0, .int .i64 c1, .int .i64 c2, .int .i64 c3, .int .i64 c4, .string ln] := by rw [hY]; exact boxn_new u2 #[.int .i64 kd, .int .i64 st, .int .i64 to1, .int .i64 lb, .int .i64 pk1, .slice ka kl kc, .int .i64 c0, .int .i64 c1, .int .i64 c2, .int .i64 c3, .int .i64 c4, .string ln] 41 12 rfl
                rw [← hY]
                have b0Y : Below wr.heap.size wr Y := hu2.trans (bY.mono hu2.size)
                have HbY : Hid (Below wr.heap.size wr Y) := b0Y
                have HKp : Hid (KeepIn Y wr.heap.size ⟨kd, st, to1, lb, pk1, ka, kl, kc, c0, c1, c2, c3, c4, ln, kp⟩) := hkp.below bY
                have HE4 : Hid (R = ([], (k : Int), 4) → ActsOfTo s ls p t w Y (.returned (.tuple #[.slice none 0 0, .int .i64 (k : Int), .int .i64 4]))) := HE.out Y (k : Int) 4 b0Y
                have HbA : Hid (BoxN Y u2.heap.size 12 [.int .i64 kd, .int .i64 st, .int .i64 to1, .int .i64 lb, .int .i64 pk1, .slice ka kl kc, .int .i64 c0, .int .i64 c1, .int .i64 c2, .int .i64 c3, .int .i64 c4, .string ln]) := bxA
                clear hY hV hkp bY bxA hu2 b0Y hLA HLA hsl
                cases OKb with
                | false =>
                  have HE5 := HE4.out (J2.out HOK.out.symm)
                  clear J2 J3 J4 HE HE4 HO HB HFin HbY HbA HKp HV HOK hbw
                  go_wp2
                  go_ret3
                  exact HE5
                | true =>
                  obtain ⟨a0, ha0⟩ : ∃ a0, lnAct A = some a0 := by
                    cases h9 : lnAct A with
                    | none => have := HOK.out; rw [h9] at this; cases this
                    | some a0 => exact ⟨a0, rfl⟩
                  have hnk := HV.out a0 ha0
                  subst hnk
                  obtain ⟨bx3, bwY⟩ := HX.out Y (HB.out.trans (HbY.out.mono HB.out.size))
                  have x0 : Y.cell? ⟨w.heap.size, 0, none⟩ = some (.int .i64 s) := (bx3.c 0 (by decide)).1
                  have x1 : Y.cell? ⟨w.heap.size, 1, none⟩ = some (.slice a len cap) := (bx3.c 1 (by decide)).1
                  have x2 : Y.cell? ⟨w.heap.size, 2, none⟩ = some (.int .i64 p) := (bx3.c 2 (by decide)).1
                  have y0 : Y.cell? ⟨u2.heap.size, 0, none⟩ = some (.int .i64 kd) := (HbA.out.c 0 (by decide)).1
                  have y1 : Y.cell? ⟨u2.heap.size, 1, none⟩ = some (.int .i64 st) := (HbA.out.c 1 (by decide)).1
                  have y2 : Y.cell? ⟨u2.heap.size, 2, none⟩ = some (.int .i64 to1) := (HbA.out.c 2 (by decide)).1
                  have y3 : Y.cell? ⟨u2.heap.size, 3, none⟩ = some (.int .i64 lb) := (HbA.out.c 3 (by decide)).1
                  have y4 : Y.cell? ⟨u2.heap.size, 4, none⟩ = some (.int .i64 pk1) := (HbA.out.c 4 (by decide)).1
                  have y5 : Y.cell? ⟨u2.heap.size, 5, none⟩ = some (.slice ka kl kc) := (HbA.out.c 5 (by decide)).1
                  have y6 : Y.cell? ⟨u2.heap.size, 6, none⟩ = some (.int .i64 c0) := (HbA.out.c 6 (by decide)).1
                  have y7 : Y.cell? ⟨u2.heap.size, 7, none⟩ = some (.int .i64 c1) := (HbA.out.c 7 (by decide)).1
                  have y8 : Y.cell? ⟨u2.heap.size, 8, none⟩ = some (.int .i64 c2) := (HbA.out.c 8 (by decide)).1
                  have y9 : Y.cell? ⟨u2.heap.size, 9, none⟩ = some (.int .i64 c3) := (HbA.out.c 9 (by decide)).1
                  have y10 : Y.cell? ⟨u2.heap.size, 10, none⟩ = some (.int .i64 c4) := (HbA.out.c 10 (by decide)).1
                  have y11 : Y.cell? ⟨u2.heap.size, 11, none⟩ = some (.string ln) := (HbA.out.c 11 (by decide)).1
                  have zx := bx3.lt
                  have zy := HbA.out.lt
                  have hkl : kp.length = kl := HKp.out.1.1
                  have hCk : Calls Tryd.prog 26 #[.agg #[.int .i64 s, .slice a len cap, .int .i64 p], .agg #[.int .i64 kd, .int .i64 st, .int .i64 to1, .int .i64 lb, .int .i64 pk1, .slice ka kl kc, .int .i64 c0, .int .i64 c1, .int .i64 c2, .int .i64 c3, .int .i64 c4, .string ln]] Y fun e w' => e = .returned (.int .i64 (actFault s ls p ⟨kd, st, to1, lb, pk1, ka, kl, kc, c0, c1, c2, c3, c4, ln, kp⟩)) ∧ Below Y.heap.size Y w' := actFault_any s p a len cap ls ⟨kd, st, to1, lb, pk1, ka, kl, kc, c0, c1, c2, c3, c4, ln, kp⟩ Y (HL.out Y bwY) HKp.out.1
                  have hl6 : ls.length ≤ 6 := by have := cfg_zero HCf.out; omega
                  have hcf : actFault s ls p (cap7 (nk ⟨kd, st, to1, lb, pk1, ka, kl, kc, c0, c1, c2, c3, c4, ln, kp⟩)) = actFault s ls p ⟨kd, st, to1, lb, pk1, ka, kl, kc, c0, c1, c2, c3, c4, ln, kp⟩ := by
                    rw [cap_fault hl6 (a := nk ⟨kd, st, to1, lb, pk1, ka, kl, kc, c0, c1, c2, c3, c4, ln, kp⟩) hkl]
                    rfl
                  have J3b : Hid (actFault s ls p ⟨kd, st, to1, lb, pk1, ka, kl, kc, c0, c1, c2, c3, c4, ln, kp⟩ ≠ 0 → R = ([], (k : Int), actFault s ls p ⟨kd, st, to1, lb, pk1, ka, kl, kc, c0, c1, c2, c3, c4, ln, kp⟩)) := by have := J3.out _ ha0; rw [hcf] at this; exact this
                  have J4b : Hid (actFault s ls p ⟨kd, st, to1, lb, pk1, ka, kl, kc, c0, c1, c2, c3, c4, ln, kp⟩ = 0 → R = rdL s ls p (k + 1) (ys.map nk ++ [nk ⟨kd, st, to1, lb, pk1, ka, kl, kc, c0, c1, c2, c3, c4, ln, kp⟩]) (spc 10 (t.drop (e + 1)))) := fun h9 => by
                    have h8 := J4.out _ ha0 (by rw [hcf]; exact h9)
                    have h6 := kl6 hl6 HCf.out h9
                    have h6 : kl ≤ 6 := h6
                    have hcap : cap7 (nk ⟨kd, st, to1, lb, pk1, ka, kl, kc, c0, c1, c2, c3, c4, ln, kp⟩) = nk ⟨kd, st, to1, lb, pk1, ka, kl, kc, c0, c1, c2, c3, c4, ln, kp⟩ := by
                      have ht7 : kp.take 7 = kp := List.take_of_length_le (by omega)
                      simp only [cap7, nk, ht7, hkl]
                    rw [hcap] at h8
                    exact h8
                  obtain ⟨G, eG⟩ : ∃ G, G = actFault s ls p ⟨kd, st, to1, lb, pk1, ka, kl, kc, c0, c1, c2, c3, c4, ln, kp⟩ := ⟨_, rfl⟩
                  rw [← eG] at J3b J4b hCk
                  clear eG ha0 bx3 bwY J2 J3 J4 HV HOK hcf hkl
                  by_cases hG : G = 0
                  · have hG2 : (G != 0) = false := by simp [hG]
                    have HR2 : Hid (R = rdL s ls p (k + 1) ((ys ++ [(⟨kd, st, to1, lb, pk1, ka, kl, kc, c0, c1, c2, c3, c4, ln, kp⟩ : AV)]).map nk) (spc 10 (t.drop (e + 1)))) := by show _ = _; rw [J4b.out hG, List.map_append]; rfl
                    have HKs : ys.length ≤ 3000 := by have := HK.out; omega
                    have HJ : Hid (k + 1 ≤ 3000 ∧ ys.length = k) := ⟨by have := hk2; simp at this; omega, HK.out⟩
                    have hzw : W.heap.size ≤ Y.heap.size := Nat.le_trans HB.out.size HbY.out.size
                    have hk1 : IntKind.i64.wrap ((k : Int) + 1) = (k : Int) + 1 := by rw [IntKind.wrap_i64]; omega
                    have he1 : IntKind.i64.wrap ((e : Int) + 1) = (e : Int) + 1 := by rw [IntKind.wrap_i64]; omega
                    have HPush : Hid (∀ (u3 w5 : World) (a5 : Option Addr) (c5 : Nat), Below Y.heap.size Y u3 → w5.ownsRow W.heap.size 41 12 (.slice a5 (ys.length + 1) c5) (ys.length + 1) (St.flat AV.cells (ys ++ [(⟨kd, st, to1, lb, pk1, ka, kl, kc, c0, c1, c2, c3, c4, ln, kp⟩ : AV)])) → (u3.alloc (.cells #[.int .i64 kd, .int .i64 st, .int .i64 to1, .int .i64 lb, .int .i64 pk1, .slice ka kl kc, .int .i64 c0, .int .i64 c1, .int .i64 c2, .int .i64 c3, .int .i64 c4, .string ln] 41)).grownBy w5 (Value.slice ao ys.length cp).ownBlock → DcActs w5 W.heap.size (.slice a5 (ys.length + 1) c5) (ys ++ [(⟨kd, st, to1, lb, pk1, ka, kl, kc, c0, c1, c2, c3, c4, ln, kp⟩ : AV)]) ∧ Below W.heap.size W w5) := fun u3 w5 a5 c5 h1 h2 h3 => by
                      have b1 : Below wr.heap.size wr u3 := HbY.out.trans (h1.mono HbY.out.size)
                      have b2 : Below wr.heap.size wr (u3.alloc (.cells #[.int .i64 kd, .int .i64 st, .int .i64 to1, .int .i64 lb, .int .i64 pk1, .slice ka kl kc, .int .i64 c0, .int .i64 c1, .int .i64 c2, .int .i64 c3, .int .i64 c4, .string ln] 41)) := b1.alloc b1.size _
                      refine ⟨DcActs.push HO.out b2 (((HKp.out.below h1).below ((Below.refl _ _).alloc (Nat.le_refl _) _)).low HB.out.size) ?_ h3, ?_⟩
                      · rw [flat_av, flatActs_append] at h2
                        exact h2
                      · have b3 : Below W.heap.size W (u3.alloc (.cells #[.int .i64 kd, .int .i64 st, .int .i64 to1, .int .i64 lb, .int .i64 pk1, .slice ka kl kc, .int .i64 c0, .int .i64 c1, .int .i64 c2, .int .i64 c3, .int .i64 c4, .string ln] 41)) := HB.out.trans (b2.mono HB.out.size)
                        exact b3.grown h3 b3.size (fun g hg => by have := (HO.out.row.lt g hg).1; exact this)
                    have HOr : Hid (∀ u3, Below Y.heap.size Y u3 → u3.ownsRow W.heap.size 41 12 (.slice ao ys.length cp) ys.length (St.flat AV.cells ys) ∧ W.heap.size ≤ u3.heap.size) := fun u3 hu3 => ⟨own_below HO.out.row (HbY.out.trans (hu3.mono HbY.out.size)), Nat.le_trans hzw hu3.size⟩
                    have HyA : Hid (∀ u3, Below Y.heap.size Y u3 → BoxN u3 u2.heap.size 12 [.int .i64 kd, .int .i64 st, .int .i64 to1, .int .i64 lb, .int .i64 pk1, .slice ka kl kc, .int .i64 c0, .int .i64 c1, .int .i64 c2, .int .i64 c3, .int .i64 c4, .string ln]) := fun u3 hu3 => HbA.out.below hu3 HbA.out.lt
                    clear J4b J3b hG HE HE4 HO HB HFin HbY HbA HKp HK hzw hbw
                    go_upto_region 22 with (go_at_call 26; refine hCk.mono ?_; rintro e1 u3 ⟨rfl, hu3⟩)
                    have bx4 := HyA.out u3 hu3
                    clear x0 x1 x2 y0 y1 y2 y3 y4 y5 y6 y7 y8 y9 y10 y11 zx zy hCk
                    have y0 : u3.cell? ⟨u2.heap.size, 0, none⟩ = some (.int .i64 kd) := (bx4.c 0 (by decide)).1
                    have y1 : u3.cell? ⟨u2.heap.size, 1, none⟩ = some (.int .i64 st) := (bx4.c 1 (by decide)).1
                    have y2 : u3.cell? ⟨u2.heap.size, 2, none⟩ = some (.int .i64 to1) := (bx4.c 2 (by decide)).1
                    have y3 : u3.cell? ⟨u2.heap.size, 3, none⟩ = some (.int .i64 lb) := (bx4.c 3 (by decide)).1
                    have y4 : u3.cell? ⟨u2.heap.size, 4, none⟩ = some (.int .i64 pk1) := (bx4.c 4 (by decide)).1
                    have y5 : u3.cell? ⟨u2.heap.size, 5, none⟩ = some (.slice ka kl kc) := (bx4.c 5 (by decide)).1
                    have y6 : u3.cell? ⟨u2.heap.size, 6, none⟩ = some (.int .i64 c0) := (bx4.c 6 (by decide)).1
                    have y7 : u3.cell? ⟨u2.heap.size, 7, none⟩ = some (.int .i64 c1) := (bx4.c 7 (by decide)).1
                    have y8 : u3.cell? ⟨u2.heap.size, 8, none⟩ = some (.int .i64 c2) := (bx4.c 8 (by decide)).1
                    have y9 : u3.cell? ⟨u2.heap.size, 9, none⟩ = some (.int .i64 c3) := (bx4.c 9 (by decide)).1
                    have y10 : u3.cell? ⟨u2.heap.size, 10, none⟩ = some (.int .i64 c4) := (bx4.c 10 (by decide)).1
                    have y11 : u3.cell? ⟨u2.heap.size, 11, none⟩ = some (.string ln) := (bx4.c 11 (by decide)).1
                    have zy := bx4.lt
                    obtain ⟨hO3, hz3⟩ := HOr.out u3 hu3
                    have HU3 : Hid (Below Y.heap.size Y u3) := hu3
                    clear bx4 hu3
                    go_wp2_with (at_builtin; go_loud (refine St.wpList_append_row EA (by rfl) _ _ (by rfl) W.heap.size (.slice ao ys.length cp) ys.length ys (by rfl) (own_below hO3 ((Below.refl _ _).alloc (Nat.le_refl _) _)) _ 1 1 [(⟨kd, st, to1, lb, pk1, ka, kl, kc, c0, c1, c2, c3, c4, ln, kp⟩ : AV)] (by rfl) (av1 u3 ⟨kd, st, to1, lb, pk1, ka, kl, kc, c0, c1, c2, c3, c4, ln, kp⟩ _ rfl) (by unfold maxLen; omega) (by omega) (by simp; omega) ?_; intro a5 c5 w5 own5 gr5 at5; have HP5 : Hid (DcActs w5 W.heap.size (.slice a5 (ys.length + 1) c5) (ys ++ [(⟨kd, st, to1, lb, pk1, ka, kl, kc, c0, c1, c2, c3, c4, ln, kp⟩ : AV)]) ∧ Below W.heap.size W w5) := HPush.out u3 w5 a5 c5 HU3.out own5 gr5))
                    go_roundw
                    case rel => exact ⟨e + 1, a5, c5, ys ++ [(⟨kd, st, to1, lb, pk1, ka, kl, kc, c0, c1, c2, c3, c4, ln, kp⟩ : AV)], k + 1, by rw [List.length_append]; rfl, by go_num, by go_num, HJ.out.1, by omega, by show _ = _; rw [List.length_append, HJ.out.2]; rfl, by rw [List.length_append]; exact HP5.out.1, HR2, HP5.out.2⟩
                    case measure => simp [intOf]; omega
                  · have hG2 : (G != 0) = true := by simp [hG]
                    have HEG : Hid (∀ u, Below Y.heap.size Y u → ActsOfTo s ls p t w u (.returned (.tuple #[.slice none 0 0, .int .i64 (k : Int), .int .i64 G]))) := fun u hu => HE.out u (k : Int) G (HbY.out.trans (hu.mono HbY.out.size)) (J3b.out hG)
                    clear J3b J4b hG HE HE4 HO HB HFin HbY HbA HKp
                    go_wp2_with (go_at_call 26; refine hCk.mono ?_; rintro e1 u3 ⟨rfl, hu3⟩; have hE := HEG.out u3 hu3)
                    go_ret3
                    exact hE
            · have hc10 : c ≠ 10 := fun h9 => h10 (by rw [← hcc, h9]; rfl)
              have HN2 : Hid (∀ c ∈ (t.drop f).take (e + 1 - f), c ≠ 10) := fun z hz => by
                have hlt2 : e - f < (t.drop f).length := by rw [List.length_drop]; omega
                have hg : (t.drop f)[e - f] = c := by
                  have h1 := List.drop_eq_getElem_cons hel
                  rw [hd] at h1
                  rw [List.getElem_drop]
                  have h2 := (List.cons.inj h1).1
                  rw [h2]
                  congr 1
                  omega
                rw [show e + 1 - f = e - f + 1 by omega, List.take_succ_eq_append_getElem hlt2, hg] at hz
                rcases List.mem_append.1 hz with hz | hz
                · exact hN.out z hz
                · simp only [List.mem_singleton] at hz
                  rw [hz]; exact hc10
              have h10' : ¬ (C : Int) = 10 := by omega
              have h10'' : ((C : Int) == 10) = false := beq_eq_false_iff_ne.2 h10'
              have hk1 : IntKind.i64.wrap ((e : Int) + 1) = (e : Int) + 1 := by rw [IntKind.wrap_i64]; omega
              clear hd hcc hc10 hN HE HFin HK HO HRk HB hbw ht HX HL HCf
              go_wp2
              go_roundw
              case rel => exact ⟨e + 1, by go_num, by omega, by omega, HN2, by first | rfl | trivial⟩
              case measure => simp [intOf]; omega
          · obtain rfl : e = t.length := by omega
            have hnl : ¬ ((t.length : Int) < (t.length : Int)) := by omega
            have hM : Hid (t.length < t.length → ∃ r, t.drop t.length = 10 :: r) := fun h9 => absurd h9 (Nat.lt_irrefl _)
            obtain ⟨j1, j2, -, -⟩ := rd_step HRk.out ht
            obtain ⟨q1, -⟩ := cut_at hfe het hN.out hM.out
            by_cases hk : k = 3000
            · have HE2 : Hid (ActsOfTo s ls p t w wr (.returned (.tuple #[.slice none 0 0, .int .i64 (k : Int), .int .i64 1]))) := HE.out wr _ _ (Below.refl _ _) (j1 hk)
              have hk2 : ((k : Int) == 3000) = true := by simp [hk]
              clear HE HRk HO HB HK hbw j1 j2 q1 hk ht hN hM
              go_wp2
              go_ret3
              exact HE2.out
            · have hk2 : ((k : Int) == 3000) = false := by simp; omega
              have HE2 : Hid (ActsOfTo s ls p t w wr (.returned (.tuple #[.slice none 0 0, .int .i64 (k : Int), .int .i64 4]))) := HE.out wr _ _ (Below.refl _ _) (j2 hk (Or.inl (by rw [q1 rfl])))
              clear HE HRk HO HB HK hbw j1 j2 q1 hk ht hN hM
              go_wp2
              go_ret3
              exact HE2.out
      · obtain rfl : f = t.length := by omega
        have hnl : ¬ ((t.length : Int) < (t.length : Int)) := by omega
        have HE2 : Hid (ActsOfTo s ls p t w wo (.returned (.tuple #[.slice ao ys.length cp, .int .i64 0, .int .i64 0]))) := HFin.out wo ao cp ys 0 0 (by rw [HRk.out, List.drop_of_length_le (Nat.le_refl _), rdL_cut, if_pos rfl]) (HO.out.low ((HX.out W (Below.refl _ _)).2.size)) hbw
        clear HE HRk HO HB HK hbw
        go_wp2
        go_ret3
        exact HE2.out
  · have hF2 : (F != 0) = true := by simp [hF]
    have HE : Hid (∀ u, Below w.heap.size w u → ActsOfTo s ls p t w u (.returned (.tuple #[.slice none 0 0, .int .i64 0, .int .i64 F]))) := fun u hu => HFin.out u none 0 [] 0 F (by rw [HR.out, if_pos hF]; rfl) (dcActs_nil _ _) hu
    clear hF HR HFin
    go_wp2_with (go_at_call 25; refine hck.mono ?_; rintro e u0 ⟨rfl, hu0⟩; have hE := HE.out u0 (bW.trans (hu0.mono bW.size)))
    go_ret3
    exact hE
end Go.Proofs.YtlaagfnoepcnlaaDoor.Ln
/- Contracts of sameInts and sameActs: at the same numbers, at the same acts, they return true and leave what was in memory. -/
namespace Go.Proofs.YtlaagfnoepcnlaaDoor.Ln
open Go.ChangeShapes Go.WideShapes Go.ChangeAt Go.RowKit
set_option linter.unusedVariables false

set_option maxHeartbeats 1000000 in
theorem sameIntsL (a b : Option Addr) (n cap cap' : Nat) (zs : List Int) (w : World) (h : IsInts w a n cap zs) (h' : IsInts w b n cap' zs) :
    Calls Tryd.prog 31 #[.slice a n cap, .slice b n cap'] w fun e w' => e = .returned (.bool true) ∧ Below w.heap.size w w' := by
  have hmx : n ≤ maxLen := Nat.le_trans h.2.1 h.2.2.1
  unfold maxLen at hmx
  go_enter Tryd.func31, Tryd.ntmps31
  go_wp2
  go_loopw [5] (fun i wr => ∃ k : Nat, k ≤ n ∧ i = .int .i64 k ∧ Below w.heap.size w wr) (fun i _ => n - (intOf i).toNat)
  case atStart => exact ⟨0, Nat.zero_le _, rfl, Below.refl _ _⟩
  case round =>
    obtain ⟨k, hk, rfl, hb⟩ := hrel
    by_cases hlt : k < n
    · have hlt' : (k : Int) < (n : Int) := by omega
      obtain ⟨b1, o1, rfl, _, c1⟩ := (h.below hb).2.2.2.2 (by omega)
      obtain ⟨b2, o2, rfl, _, c2⟩ := (h'.below hb).2.2.2.2 (by omega)
      have e1 := c1 k hlt
      have e2 := c2 k hlt
      obtain ⟨z, hz⟩ : ∃ z, z = zs.getD k 0 := ⟨_, rfl⟩
      rw [← hz] at e1 e2
      clear hz c1 c2
      go_wp2
      go_quiet (fail)
      go_wp2
      go_roundw
      case rel => exact ⟨k + 1, by omega, by go_num, below_drewN hb nq⟩
      case measure => simp [intOf]; omega
    · go_wp2
      go_ret
      exact ⟨rfl, hb⟩

set_option maxHeartbeats 4000000 in
theorem sameActsL (a b : Option Addr) (n cap cap' : Nat) (xs ys : List AV) (w : World) (h : IsActs w a n cap xs) (h' : IsActs w b n cap' ys) (hs : xs.map AV.bare = ys.map AV.bare) :
    Calls Tryd.prog 13 #[.slice a n cap, .slice b n cap'] w fun e w' => e = .returned (.bool true) ∧ Below w.heap.size w w' := by
  have hmx : n ≤ maxLen := Nat.le_trans h.2.1 h.2.2.1
  unfold maxLen at hmx
  go_enter Tryd.func13, Tryd.ntmps13
  go_wp2
  go_loopw [5] (fun i wr => ∃ k : Nat, k ≤ n ∧ i = .int .i64 k ∧ Below w.heap.size w wr) (fun i _ => n - (intOf i).toNat)
  case atStart => exact ⟨0, Nat.zero_le _, rfl, Below.refl _ _⟩
  case round =>
    obtain ⟨k, hk, rfl, hb⟩ := hrel
    by_cases hlt : k < n
    · have hlt' : (k : Int) < (n : Int) := by omega
      obtain ⟨g1, o1, rfl, t1⟩ := (h.below hb).2.2.2 (by omega)
      obtain ⟨g2, o2, rfl, t2⟩ := (h'.below hb).2.2.2 (by omega)
      have hl1 := h.1
      have hl2 := h'.1
      obtain ⟨p1, q1⟩ := t1.2 k (by omega)
      obtain ⟨p2, q2⟩ := t2.2 k (by omega)
      have hsame : (xs.getD k default).bare = (ys.getD k default).bare := by
        have e := congrArg (fun l : List AV => l[k]?) hs
        simp only [List.getElem?_map] at e
        rw [List.getElem?_eq_getElem (by omega), List.getElem?_eq_getElem (by omega)] at e
        simp at e
        simpa [List.getD, show k < xs.length by omega, show k < ys.length by omega] using e
      obtain ⟨x, ex⟩ : ∃ x, x = xs.getD k default := ⟨_, rfl⟩
      obtain ⟨y, ey⟩ : ∃ y, y = ys.getD k default := ⟨_, rfl⟩
      rw [← ex, ← ey] at hsame
      rw [← ex] at p1 q1
      rw [← ey] at p2 q2
      clear ex ey
      obtain ⟨kind, site, to9, label, pick, ka, kl, kc, c0, c1, c2, c3, c4, line, keep⟩ := x
      obtain ⟨kind', site', to9', label', pick', ka', kl', kc', c0', c1', c2', c3', c4', line', keep'⟩ := y
      simp [AV.bare] at hsame
      obtain ⟨rfl, rfl, rfl, rfl, rfl, rfl, rfl, rfl, rfl, rfl, rfl, rfl⟩ := hsame
      simp only [] at q1 q2
      obtain rfl : kl = keep.length := q1.1.symm
      obtain rfl : kl' = keep.length := q2.1.symm
      have a0 := (p1 0 (by decide)).trans (show _ = some (Value.int .i64 kind) from rfl)
      have a1 := (p1 1 (by decide)).trans (show _ = some (Value.int .i64 site) from rfl)
      have a2 := (p1 2 (by decide)).trans (show _ = some (Value.int .i64 to9) from rfl)
      have a3 := (p1 3 (by decide)).trans (show _ = some (Value.int .i64 label) from rfl)
      have a4 := (p1 4 (by decide)).trans (show _ = some (Value.int .i64 pick) from rfl)
      have a5 := (p1 5 (by decide)).trans (show _ = some (Value.slice ka keep.length kc) from rfl)
      have a6 := (p1 6 (by decide)).trans (show _ = some (Value.int .i64 c0) from rfl)
      have a7 := (p1 7 (by decide)).trans (show _ = some (Value.int .i64 c1) from rfl)
      have a8 := (p1 8 (by decide)).trans (show _ = some (Value.int .i64 c2) from rfl)
      have a9 := (p1 9 (by decide)).trans (show _ = some (Value.int .i64 c3) from rfl)
      have a10 := (p1 10 (by decide)).trans (show _ = some (Value.int .i64 c4) from rfl)
      have a11 := (p1 11 (by decide)).trans (show _ = some (Value.string line) from rfl)
      have b0 := (p2 0 (by decide)).trans (show _ = some (Value.int .i64 kind) from rfl)
      have b1 := (p2 1 (by decide)).trans (show _ = some (Value.int .i64 site) from rfl)
      have b2 := (p2 2 (by decide)).trans (show _ = some (Value.int .i64 to9) from rfl)
      have b3 := (p2 3 (by decide)).trans (show _ = some (Value.int .i64 label) from rfl)
      have b4 := (p2 4 (by decide)).trans (show _ = some (Value.int .i64 pick) from rfl)
      have b5 := (p2 5 (by decide)).trans (show _ = some (Value.slice ka' keep.length kc') from rfl)
      have b6 := (p2 6 (by decide)).trans (show _ = some (Value.int .i64 c0) from rfl)
      have b7 := (p2 7 (by decide)).trans (show _ = some (Value.int .i64 c1) from rfl)
      have b8 := (p2 8 (by decide)).trans (show _ = some (Value.int .i64 c2) from rfl)
      have b9 := (p2 9 (by decide)).trans (show _ = some (Value.int .i64 c3) from rfl)
      have b10 := (p2 10 (by decide)).trans (show _ = some (Value.int .i64 c4) from rfl)
      have b11 := (p2 11 (by decide)).trans (show _ = some (Value.string line) from rfl)
      rw [Nat.add_zero] at a0 b0
      clear p1 p2 t1 t2
      have hz1 : g1 < wr.heap.size := World.block_lt_of_cell? wr _ a0
      have hz2 : g2 < wr.heap.size := World.block_lt_of_cell? wr _ b0
      go_wp2_with (go_at_call 31; refine (sameIntsL _ _ _ _ _ keep _ (q1.below (((Below.refl _ _).alloc (Nat.le_refl _) _).alloc (by simp) _)) (q2.below (((Below.refl _ _).alloc (Nat.le_refl _) _).alloc (by simp) _))).mono ?_; rintro e w3 ⟨rfl, hb3⟩)
      go_roundw
      case rel => exact ⟨k + 1, by omega, by go_num, hb.trans ((((Below.refl _ _).alloc hb.size _).alloc (by have := hb.size; simp; omega) _).trans (hb3.mono (by have := hb.size; simp; omega)))⟩
      case measure => simp [intOf]; omega
    · go_wp2
      go_ret
      exact ⟨rfl, hb⟩
end Go.Proofs.YtlaagfnoepcnlaaDoor.Ln
