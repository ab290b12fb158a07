/- Texts of this claim, one behind the other. -/
import Derived.Test.YtlaagfnoepcnlaaDoorM25LinesBad
import Derived.Test.YtlaagfnoepcnlaaDoorM18LinesBad
import Derived.Test.YtlaagfnoepcnlaaDoorM26LinesBad
import Derived.Test.YtlaagfnoepcnlaaDoorM20LinesBad
import Derived.Test.YtlaagfnoepcnlaaDoorM12LinesBad
import Derived.Test.YtlaagfnoepcnlaaDoorM11LinesBad
import Derived.Test.YtlaagfnoepcnlaaDoorM17LinesBad
import Derived.Test.YtlaagfnoepcnlaaDoorM19LinesBad
import Derived.Test.YtlaagfnoepcnlaaDoorRows
import Derived.JoinedOf
import Derived.KernelRfl
/- lines.Read. -/
namespace Go.Proofs.YtlaagfnoepcnlaaDoor.Ln
open Go.ChangeShapes Go.WideShapes Go.ChangeAt Go.RowKit
open Go.Proofs.YtlaagfnoepcnlaaDoor.St (BoxN boxn_new own_below IsRow Elem flat own_isRow)
set_option linter.unusedVariables false

theorem nk_fault {s : Int} {ls : List (Int × Int)} {p : Int} {a : AV} : actFault s ls p (nk a) = actFault s ls p a := rfl
theorem OwnActs.keepLen {w : World} {B : Nat} {v : Value} {ys : List AV} (h : OwnActs w B v ys) : True := trivial
/-- Acts that are read of a text. -/
def ReadTo (s : Int) (ls : List (Int × Int)) (p : Int) (t : List UInt8) (w w' : World) (e : Ending) : Prop := ∃ (ao : Option Addr) (cp : Nat) (ys : List AV),
  e = .returned (.tuple #[.slice ao ys.length cp, .int .i64 (rdAll s ls p t).2.1, .int .i64 (rdAll s ls p t).2.2]) ∧ OwnActs w' w.heap.size (.slice ao ys.length cp) ys ∧ ys.map nk = (rdAll s ls p t).1 ∧ (∀ y ∈ ys, y.keep.length = y.kl) ∧ Below w.heap.size w w'
theorem act_cells (X : World) (y : AV) (q : Nat) (hq : q = X.heap.size) : ∀ j, j < 12 → (X.alloc (.cells y.cells.toArray 41)).cell? ⟨q, j, none⟩ = some (y.cells.getD j (.bool false)) := by
  subst hq
  intro j hj
  exact ((boxn_new X y.cells.toArray 41 12 rfl).c j hj).1
theorem av_len2 (x : AV) : x.cells.length = 12 := rfl
theorem av_one2 (y : AV) : ∀ u ∈ y.cells, u.oneCell' = true := by
  intro u hu
  simp only [AV.cells, List.mem_cons, List.not_mem_nil, or_false] at hu
  rcases hu with rfl | rfl | rfl | rfl | rfl | rfl | rfl | rfl | rfl | rfl | rfl | rfl <;> rfl
theorem avInfo2 : (Tryd.prog.info? 41).map (fun i => (i.zero, i.size, i.bytes)) = some (some (.agg #[.int .i64 0, .int .i64 0, .int .i64 0, .int .i64 0, .int .i64 0, .slice none 0 0, .int .i64 0, .int .i64 0, .int .i64 0, .int .i64 0, .int .i64 0, .string ⟨#[]⟩]), 12, 120) := by kernel_rfl
theorem avElem2 : ∃ i, Elem 12 AV.cells 41 25 i (.agg #[.int .i64 0, .int .i64 0, .int .i64 0, .int .i64 0, .int .i64 0, .slice none 0 0, .int .i64 0, .int .i64 0, .int .i64 0, .int .i64 0, .int .i64 0, .string ⟨#[]⟩]) 120 := by
  obtain ⟨j0, hj, lj0, lj1, lj2⟩ := info_parts avInfo2
  exact ⟨j0, av_len2, by decide, av_one2, Tryd.underlying25, hj, lj0, lj1, lj2, rfl⟩
theorem av1 (X : World) (y : AV) (q : Nat) (hq : q = X.heap.size) : IsRow 12 AV.cells (X.alloc (.cells y.cells.toArray 41)) (some ⟨q, 0, none⟩) 1 1 [y] := by
  subst hq
  have b := boxn_new X y.cells.toArray 41 12 rfl
  refine ⟨rfl, Nat.le_refl _, by unfold maxLen; omega, nofun, fun _ => ⟨_, 0, rfl, b.lt, fun i hi j hj => ?_⟩⟩
  obtain rfl : i = 0 := by omega
  rw [Nat.zero_mul, Nat.zero_add, (b.c j hj).1]
  have hl : j < y.cells.length := hj
  simp [List.getD, List.getElem?_eq_getElem hl]
theorem lowA {w : World} {B C : Nat} {v : Value} {ys : List AV} (h : OwnActs w C v ys) (hB : B ≤ C) : OwnActs w B v ys := ⟨ownB h.row hB, fun y hy => ⟨ownB (h.keeps y hy).1 hB, (h.keeps y hy).2⟩⟩
theorem flat_av (ys : List AV) : St.flat AV.cells ys = flatActs ys := rfl
theorem rd_step {s : Int} {ls : List (Int × Int)} {p : Int} {t : List UInt8} {k : Nat} {acc : List AV} {R : List AV × Int × Int} (h : R = rdL s ls p k acc (spc 10 t)) (h0 : t ≠ []) :
    (k = 3000 → R = ([], (k : Int), 1)) ∧ (k ≠ 3000 → (cutC 10 t).2.2 = false ∨ (lnAct (cutC 10 t).1).isSome = false → R = ([], (k : Int), 4)) ∧
    (k ≠ 3000 → (cutC 10 t).2.2 = true → ∀ a, lnAct (cutC 10 t).1 = some a → actFault s ls p a ≠ 0 → R = ([], (k : Int), actFault s ls p a)) ∧
    (k ≠ 3000 → (cutC 10 t).2.2 = true → ∀ a, lnAct (cutC 10 t).1 = some a → actFault s ls p a = 0 → R = rdL s ls p (k + 1) (acc ++ [a]) (spc 10 (cutC 10 t).2.1)) := by
  rw [rdL_cut, if_neg h0] at h
  refine ⟨fun hk => ?_, fun hk hc => ?_, fun hk hc a ha hf => ?_, fun hk hc a ha hf => ?_⟩
  · rw [if_pos hk] at h; exact h
  · rw [if_neg hk] at h
    rcases hc with hc | hc
    · rw [if_pos hc] at h; exact h
    · have hn : lnAct (cutC 10 t).1 = none := by simpa using hc
      rw [hn] at h
      split at h <;> exact h
  · rw [if_neg hk, if_neg (by simp [hc]), ha] at h
    simp only [if_neg hf] at h
    exact h
  · rw [if_neg hk, if_neg (by simp [hc]), ha] at h
    simp only [if_pos hf] at h
    exact h
set_option maxRecDepth 100000 in
set_option maxHeartbeats 8000000 in
theorem read_any (s p : Int) (a : Option Addr) (len cap : Nat) (ls : List (Int × Int)) (t : List UInt8) (w : World) (h : IsLabs w a len cap ls) (hl : t.length ≤ 140737488355328) (hT : ∀ U, Below w.heap.size w U → RdT U) :
    Calls Tryd.prog 11 #[.agg #[.int .i64 s, .slice a len cap, .int .i64 p], .string ⟨t.toArray⟩] w fun e w' => ReadTo s ls p t w w' e := by
  obtain ⟨iA, EA⟩ := avElem2
  obtain ⟨W, hW⟩ : ∃ W : World, W = w.alloc (.cells #[.int .i64 s, .slice a len cap, .int .i64 p] 24) := ⟨_, rfl⟩
  have bW : Below w.heap.size w W := by rw [hW]; exact (Below.refl _ _).alloc (Nat.le_refl _) _
  have bx : BoxN W w.heap.size 3 [.int .i64 s, .slice a len cap, .int .i64 p] := by rw [hW]; exact boxn_new w #[.int .i64 s, .slice a len cap, .int .i64 p] 24 3 rfl
  have HL : Hid (∀ U, Below w.heap.size w U → IsLabs U a len cap ls) := fun U hU => h.below hU
  have HT : Hid (∀ U, Below w.heap.size w U → RdT U) := hT
  have HX : Hid (∀ U, Below W.heap.size W U → BoxN U w.heap.size 3 [.int .i64 s, .slice a len cap, .int .i64 p] ∧ Below w.heap.size w U) := fun U hU => ⟨bx.below hU bx.lt, bW.trans (hU.mono bW.size)⟩
  have x0 : W.cell? ⟨w.heap.size, 0, none⟩ = some (.int .i64 s) := (bx.c 0 (by decide)).1
  have x1 : W.cell? ⟨w.heap.size, 1, none⟩ = some (.slice a len cap) := (bx.c 1 (by decide)).1
  have x2 : W.cell? ⟨w.heap.size, 2, none⟩ = some (.int .i64 p) := (bx.c 2 (by decide)).1
  have zx := bx.lt
  have hCk := fun U (hU : Below w.heap.size w U) => check_any s p a len cap ls U (HL.out U hU)
  have hck := hCk W bW
  obtain ⟨F, eF⟩ : ∃ F, F = cfgFault s ls p := ⟨_, rfl⟩
  obtain ⟨R, eR⟩ : ∃ R, R = rdAll s ls p t := ⟨_, rfl⟩
  have HR : Hid (R = if F ≠ 0 then ([], 0, F) else rdL s ls p 0 [] (spc 10 t)) := by show _ = _; rw [eR, eF]; rfl
  have HFin : Hid (∀ (w' : World) (ao : Option Addr) (cp : Nat) (ys : List AV) (k e : Int), R = (ys.map nk, k, e) → OwnActs w' w.heap.size (.slice ao ys.length cp) ys → (∀ y ∈ ys, y.keep.length = y.kl) → Below w.heap.size w w' → ReadTo s ls p t w w' (.returned (.tuple #[.slice ao ys.length cp, .int .i64 k, .int .i64 e]))) := fun w' ao cp ys k e h1 h2 h3 h4 =>
    ⟨ao, cp, ys, by rw [← eR, h1], h2, by rw [← eR, h1], h3, h4⟩
  rw [← eF] at hck
  clear eR eF hCk hT h bx
  go_enter Tryd.func11, Tryd.ntmps11
  go_upto_region 1 with (fail)
  rw [← hW]
  clear hW
  by_cases hF : F = 0
  · have hF2 : (F != 0) = false := by simp [hF]
    have HR1 : Hid (R = rdL s ls p 0 (([] : List AV).map nk) (spc 10 t)) := by show _ = _; rw [HR.out, if_neg (by simp [hF])]; rfl
    clear HR hF
    go_upto_region 2 with (go_at_call 19; refine hck.mono ?_; rintro e u0 ⟨rfl, hu0⟩)
    have HB0 : Hid (Below W.heap.size W u0) := hu0
    clear hu0 hck x0 x1 x2 zx
    go_upto_region 6 with (fail)
    go_loopg [1, 8, 9] (t.length) (fun m s1 s8 s9 wr => ∃ (t' : List UInt8) (ao : Option Addr) (cp : Nat) (ys : List AV) (k : Nat), s1 = .string ⟨t'.toArray⟩ ∧ s8 = .slice ao ys.length cp ∧ s9 = .int .i64 (k : Int) ∧ k ≤ 3000 ∧ Hid (ys.length = k) ∧ Hid (t'.length ≤ m ∧ t'.length ≤ t.length) ∧ Hid (OwnActs wr W.heap.size (.slice ao ys.length cp) ys) ∧ Hid (R = rdL s ls p k (ys.map nk) (spc 10 t')) ∧ Hid (∀ y ∈ ys, y.keep.length = y.kl) ∧ Hid (Below W.heap.size W wr))
    case atStart => exact ⟨t, none, 0, [], 0, rfl, rfl, rfl, by omega, rfl, ⟨Nat.le_refl _, Nat.le_refl _⟩, ownActs_nil _ _, HR1, (by intro y hy; cases hy), HB0⟩
    case round =>
      clear HR1 HB0
      obtain ⟨t', ao, cp, ys, k, rfl, rfl, rfl, hk3, HK, HM, HO, HRk, HKl, HB⟩ := hrel
      obtain ⟨wo, ewo⟩ : ∃ X : World, X = wr := ⟨_, rfl⟩
      subst ewo
      have hbw := (HX.out wo HB.out).2
      have HE : Hid (∀ (u : World) (kk e : Int), Below wo.heap.size wo u → R = ([], kk, e) → ReadTo s ls p t w u (.returned (.tuple #[.slice none 0 0, .int .i64 kk, .int .i64 e]))) := fun u kk e hu h1 => HFin.out u none 0 [] kk e h1 (ownActs_nil _ _) (by intro y hy; cases hy) (hbw.trans (hu.mono hbw.size))
      by_cases ht : t' = []
      · subst ht
        have HE2 : Hid (ReadTo s ls p t w wo (.returned (.tuple #[.slice ao ys.length cp, .int .i64 0, .int .i64 0]))) := HFin.out wo ao cp ys 0 0 (by rw [HRk.out, rdL_cut, if_pos rfl]) (lowA HO.out bW.size) HKl.out hbw
        clear HE HRk HO HB HKl HK HM hbw
        go_wp2
        go_ret3
        exact HE2.out
      · have ht2 : (t'.isEmpty) = false := by cases t' with | nil => exact absurd rfl ht | cons _ _ => rfl
        obtain ⟨j1, j2, j3, j4⟩ := rd_step HRk.out ht
        have hpos : 0 < t'.length := by cases t' with | nil => exact absurd rfl ht | cons _ _ => simp
        by_cases hk : k = 3000
        · have HE2 : Hid (ReadTo s ls p t w wo (.returned (.tuple #[.slice none 0 0, .int .i64 (k : Int), .int .i64 1]))) := HE.out wo _ _ (Below.refl _ _) (j1 hk)
          have hk2 : ((k : Int) == 3000) = true := by simp [hk]
          clear HE HRk HO HB HKl HK HM hbw j1 j2 j3 j4 hk
          go_wp2
          go_ret3
          exact HE2.out
        · have hk2 : ((k : Int) == 3000) = false := by simp; omega
          have hcut := cut_any ⟨t'.toArray⟩ 10 wo (by show t'.toArray.size ≤ _; have := HM.out; simp; omega)
          simp only at hcut
          have J2 : Hid ((cutC 10 t').2.2 = false ∨ (lnAct (cutC 10 t').1).isSome = false → R = ([], (k : Int), 4)) := j2 hk
          have J3 : Hid ((cutC 10 t').2.2 = true → ∀ a, lnAct (cutC 10 t').1 = some a → actFault s ls p a ≠ 0 → R = ([], (k : Int), actFault s ls p a)) := j3 hk
          have J4 : Hid ((cutC 10 t').2.2 = true → ∀ a, lnAct (cutC 10 t').1 = some a → actFault s ls p a = 0 → R = rdL s ls p (k + 1) (ys.map nk ++ [a]) (spc 10 (cutC 10 t').2.1)) := j4 hk
          have hcl := cutC_len (c := 10) (r := t')
          have hcs := (cut_spc 10 t').2.1
          obtain ⟨A, eA⟩ : ∃ x, x = (cutC 10 t').1 := ⟨_, rfl⟩
          obtain ⟨T2, eT2⟩ : ∃ x, x = (cutC 10 t').2.1 := ⟨_, rfl⟩
          obtain ⟨E, eE⟩ : ∃ x, x = (cutC 10 t').2.2 := ⟨_, rfl⟩
          rw [← eA, ← eT2] at hcl
          rw [← eT2, ← eE] at hcs
          rw [← eA, ← eT2, ← eE] at hcut
          rw [← eE, ← eA] at J2 J3 J4
          rw [← eT2] at J4
          have HMs : Hid (T2.length ≤ t'.length ∧ (E = true → T2.length < t'.length) ∧ t'.length ≤ gk ∧ t'.length ≤ t.length ∧ 0 < t'.length) := ⟨hcl.2, fun h => (hcs h).2, HM.out.1, HM.out.2, hpos⟩
          have hAl : A.length ≤ 140737488355328 := by have := HM.out.2; omega
          have HRA : Hid (∀ u, Below wo.heap.size wo u → Calls Tryd.prog 29 #[.string ⟨A.toArray⟩] u fun e w' => ReadActTo A u w' e) := fun u hu => readAct_any A u hAl (fun U hU => HT.out U ((hbw.trans (hu.mono hbw.size)).trans (hU.mono (hbw.trans (hu.mono hbw.size)).size)))
          clear eA eT2 eE hcl hcs HM hpos j1 j2 j3 j4 hk HRk hAl ht
          go_upto_region 11 with (go_at_call 28; refine hcut.mono ?_; rintro e u1 ⟨rfl, hu1⟩)
          have hra := HRA.out u1 hu1
          clear hcut
          obtain ⟨OKb, eOK⟩ : ∃ x, x = (lnAct A).isSome := ⟨_, rfl⟩
          have HOK : Hid (OKb = (lnAct A).isSome) := eOK
          have HRA2 : Hid (∀ e u2, ReadActTo A u1 u2 e → ∃ a : AV, e = .returned (.tuple #[.agg a.cells.toArray, .bool OKb]) ∧ u2.ownsRow u1.heap.size 3 1 (.slice a.ka a.kl a.kc) a.kl (a.keep.map (Value.int .i64)) ∧ Nums a.keep ∧ a.keep.length = a.kl ∧ (∀ x, lnAct A = some x → x = nk a) ∧ Below u1.heap.size u1 u2) := fun e u2 ⟨a, h1, h2⟩ => ⟨a, by rw [eOK]; exact h1, h2⟩
          have HU1 : Hid (Below wo.heap.size wo u1) := hu1
          clear eOK hu1
          go_upto_region 12 with (go_at_call 29; refine hra.mono ?_; intro e u2 hr2; obtain ⟨y, he, hown, hnums, hkl, hV, hu2⟩ := HRA2.out e u2 hr2; obtain ⟨kd, st, to1, lb, pk1, ka, kl, kc, c0, c1, c2, c3, c4, ln, kp⟩ := y; have he2 : e = .returned (.tuple #[.agg #[.int .i64 kd, .int .i64 st, .int .i64 to1, .int .i64 lb, .int .i64 pk1, .slice ka kl kc, .int .i64 c0, .int .i64 c1, .int .i64 c2, .int .i64 c3, .int .i64 c4, .string ln], .bool OKb]) := he; subst he2)
          have HV : Hid (∀ x, lnAct A = some x → x = nk ⟨kd, st, to1, lb, pk1, ka, kl, kc, c0, c1, c2, c3, c4, ln, kp⟩) := hV
          have HOw : Hid (u2.ownsRow u1.heap.size 3 1 (.slice ka kl kc) kl (kp.map (Value.int .i64)) ∧ Nums kp ∧ kp.length = kl) := ⟨hown, hnums, hkl⟩
          obtain ⟨Y, hY⟩ : ∃ Y : World, Y = u2.alloc (.cells #[.int .i64 kd, .int .i64 st, .int .i64 to1, .int .i64 lb, .int .i64 pk1, .slice ka kl kc, .int .i64 c0, .int .i64 c1, .int .i64 c2, .int .i64 c3, .int .i64 c4, .string ln] 41) := ⟨_, rfl⟩
          have bY : Below u2.heap.size u2 Y := by rw [hY]; exact (Below.refl _ _).alloc (Nat.le_refl _) _
          have bxA : BoxN Y u2.heap.size 12 [.int .i64 kd, .int .i64 st, .int .i64 to1, .int .i64 lb, .int .i64 pk1, .slice ka kl kc, .int .i64 c0, .int .i64 c1, .int .i64 c2, .int .i64 c3, .int .i64 c4, .string ln] := by rw [hY]; exact boxn_new u2 #[.int .i64 kd, .int .i64 st, .int .i64 to1, .int .i64 lb, .int .i64 pk1, .slice ka kl kc, .int .i64 c0, .int .i64 c1, .int .i64 c2, .int .i64 c3, .int .i64 c4, .string ln] 41 12 rfl
          rw [← hY]
          have b0Y : Below wo.heap.size wo Y := (HU1.out.trans (hu2.mono HU1.out.size)).trans (bY.mono (Nat.le_trans HU1.out.size hu2.size))
          have HbY : Hid (Below wo.heap.size wo Y) := b0Y
          have hbR := HE.out Y (k : Int) 4 b0Y
          have HE4 : Hid (R = ([], (k : Int), 4) → ReadTo s ls p t w Y (.returned (.tuple #[.slice none 0 0, .int .i64 (k : Int), .int .i64 4]))) := hbR
          have HbA : Hid (BoxN Y u2.heap.size 12 [.int .i64 kd, .int .i64 st, .int .i64 to1, .int .i64 lb, .int .i64 pk1, .slice ka kl kc, .int .i64 c0, .int .i64 c1, .int .i64 c2, .int .i64 c3, .int .i64 c4, .string ln]) := bxA
          have HO2 : Hid (u1.heap.size ≤ u2.heap.size ∧ Y.ownsRow u1.heap.size 3 1 (.slice ka kl kc) kl (kp.map (Value.int .i64))) := ⟨hu2.size, own_below hown bY⟩
          clear hY hV hown hnums hkl bY bxA hu2 b0Y hbR hra HRA2
          by_cases hEO : E = true ∧ OKb = true
          · obtain ⟨hE1, hO1⟩ := hEO
            subst hE1 hO1
            obtain ⟨a0, ha0⟩ : ∃ a0, lnAct A = some a0 := by
              cases h : lnAct A with
              | none => have := HOK.out; rw [h] at this; cases this
              | some a0 => exact ⟨a0, rfl⟩
            have hnk := HV.out a0 ha0
            subst hnk
            obtain ⟨bx3, bwY⟩ := HX.out Y (HB.out.trans (HbY.out.mono HB.out.size))
            have x0 : Y.cell? ⟨w.heap.size, 0, none⟩ = some (.int .i64 s) := (bx3.c 0 (by decide)).1
            have x1 : Y.cell? ⟨w.heap.size, 1, none⟩ = some (.slice a len cap) := (bx3.c 1 (by decide)).1
            have x2 : Y.cell? ⟨w.heap.size, 2, none⟩ = some (.int .i64 p) := (bx3.c 2 (by decide)).1
            have y0 : Y.cell? ⟨u2.heap.size, 0, none⟩ = some (.int .i64 kd) := (HbA.out.c 0 (by decide)).1
            have y1 : Y.cell? ⟨u2.heap.size, 1, none⟩ = some (.int .i64 st) := (HbA.out.c 1 (by decide)).1
            have y2 : Y.cell? ⟨u2.heap.size, 2, none⟩ = some (.int .i64 to1) := (HbA.out.c 2 (by decide)).1
            have y3 : Y.cell? ⟨u2.heap.size, 3, none⟩ = some (.int .i64 lb) := (HbA.out.c 3 (by decide)).1
            have y4 : Y.cell? ⟨u2.heap.size, 4, none⟩ = some (.int .i64 pk1) := (HbA.out.c 4 (by decide)).1
            have y5 : Y.cell? ⟨u2.heap.size, 5, none⟩ = some (.slice ka kl kc) := (HbA.out.c 5 (by decide)).1
            have y6 : Y.cell? ⟨u2.heap.size, 6, none⟩ = some (.int .i64 c0) := (HbA.out.c 6 (by decide)).1
            have y7 : Y.cell? ⟨u2.heap.size, 7, none⟩ = some (.int .i64 c1) := (HbA.out.c 7 (by decide)).1
            have y8 : Y.cell? ⟨u2.heap.size, 8, none⟩ = some (.int .i64 c2) := (HbA.out.c 8 (by decide)).1
            have y9 : Y.cell? ⟨u2.heap.size, 9, none⟩ = some (.int .i64 c3) := (HbA.out.c 9 (by decide)).1
            have y10 : Y.cell? ⟨u2.heap.size, 10, none⟩ = some (.int .i64 c4) := (HbA.out.c 10 (by decide)).1
            have y11 : Y.cell? ⟨u2.heap.size, 11, none⟩ = some (.string ln) := (HbA.out.c 11 (by decide)).1
            have zx := bx3.lt
            have zy := HbA.out.lt
            have hints : IsInts Y ka kl kc kp := ints_of_own HO2.out.2 HOw.out.2.1
            have tb := (HT.out Y bwY).ln
            have hCk : Calls Tryd.prog 20 #[.agg #[.int .i64 s, .slice a len cap, .int .i64 p], .agg #[.int .i64 kd, .int .i64 st, .int .i64 to1, .int .i64 lb, .int .i64 pk1, .slice ka kl kc, .int .i64 c0, .int .i64 c1, .int .i64 c2, .int .i64 c3, .int .i64 c4, .string ln]] Y fun e w' => e = .returned (.int .i64 (actFault s ls p ⟨kd, st, to1, lb, pk1, ka, kl, kc, c0, c1, c2, c3, c4, ln, kp⟩)) ∧ Below Y.heap.size Y w' := check_act s p a len cap ls ⟨kd, st, to1, lb, pk1, ka, kl, kc, c0, c1, c2, c3, c4, ln, kp⟩ Y (HL.out Y bwY) hints tb.2.1 tb.2.2.2.1 tb.2.2.2.2.2
            have J3b : Hid (actFault s ls p ⟨kd, st, to1, lb, pk1, ka, kl, kc, c0, c1, c2, c3, c4, ln, kp⟩ ≠ 0 → R = ([], (k : Int), actFault s ls p ⟨kd, st, to1, lb, pk1, ka, kl, kc, c0, c1, c2, c3, c4, ln, kp⟩)) := by have := J3.out rfl _ ha0; rw [nk_fault] at this; exact this
            have J4b : Hid (actFault s ls p ⟨kd, st, to1, lb, pk1, ka, kl, kc, c0, c1, c2, c3, c4, ln, kp⟩ = 0 → R = rdL s ls p (k + 1) (ys.map nk ++ [nk ⟨kd, st, to1, lb, pk1, ka, kl, kc, c0, c1, c2, c3, c4, ln, kp⟩]) (spc 10 T2)) := by have := J4.out rfl _ ha0; rw [nk_fault] at this; exact this
            obtain ⟨G, eG⟩ : ∃ G, G = actFault s ls p ⟨kd, st, to1, lb, pk1, ka, kl, kc, c0, c1, c2, c3, c4, ln, kp⟩ := ⟨_, rfl⟩
            rw [← eG] at J3b J4b hCk
            clear eG ha0 hints tb bx3 bwY J2 J3 J4 HV HOK
            by_cases hG : G = 0
            · have hG2 : (G != 0) = false := by simp [hG]
              have HR2 : Hid (R = rdL s ls p (k + 1) ((ys ++ [(⟨kd, st, to1, lb, pk1, ka, kl, kc, c0, c1, c2, c3, c4, ln, kp⟩ : AV)]).map nk) (spc 10 T2)) := by show _ = _; rw [J4b.out hG, List.map_append]; rfl
              have HKs : ys.length ≤ 3000 := by have := HK.out; omega
              have HJ : Hid (k + 1 ≤ 3000 ∧ ys.length = k) := ⟨by have := hk2; simp at this; omega, HK.out⟩
              have hzw : W.heap.size ≤ Y.heap.size := Nat.le_trans HB.out.size HbY.out.size
              have hzu : W.heap.size ≤ u1.heap.size := Nat.le_trans HB.out.size HU1.out.size
              have HPush : Hid (∀ (u3 w5 : World) (a5 : Option Addr) (c5 : Nat), Below Y.heap.size Y u3 → w5.ownsRow W.heap.size 41 12 (.slice a5 (ys.length + 1) c5) (ys.length + 1) (St.flat AV.cells (ys ++ [(⟨kd, st, to1, lb, pk1, ka, kl, kc, c0, c1, c2, c3, c4, ln, kp⟩ : AV)])) → (u3.alloc (.cells #[.int .i64 kd, .int .i64 st, .int .i64 to1, .int .i64 lb, .int .i64 pk1, .slice ka kl kc, .int .i64 c0, .int .i64 c1, .int .i64 c2, .int .i64 c3, .int .i64 c4, .string ln] 41)).grownBy w5 (Value.slice ao ys.length cp).ownBlock → OwnActs w5 W.heap.size (.slice a5 (ys.length + 1) c5) (ys ++ [(⟨kd, st, to1, lb, pk1, ka, kl, kc, c0, c1, c2, c3, c4, ln, kp⟩ : AV)]) ∧ Below W.heap.size W w5) := fun u3 w5 a5 c5 h1 h2 h3 => by
                have b1 : Below wo.heap.size wo u3 := HbY.out.trans (h1.mono HbY.out.size)
                have b2 : Below wo.heap.size wo (u3.alloc (.cells #[.int .i64 kd, .int .i64 st, .int .i64 to1, .int .i64 lb, .int .i64 pk1, .slice ka kl kc, .int .i64 c0, .int .i64 c1, .int .i64 c2, .int .i64 c3, .int .i64 c4, .string ln] 41)) := b1.alloc b1.size _
                refine ⟨OwnActs.push HO.out b2 (ownB (own_below (own_below HO2.out.2 h1) ((Below.refl _ _).alloc (Nat.le_refl _) _)) hzu) HOw.out.2.1 ?_ h3, ?_⟩
                · rw [flat_av, flatActs_append] at h2
                  exact h2
                · have b3 : Below W.heap.size W (u3.alloc (.cells #[.int .i64 kd, .int .i64 st, .int .i64 to1, .int .i64 lb, .int .i64 pk1, .slice ka kl kc, .int .i64 c0, .int .i64 c1, .int .i64 c2, .int .i64 c3, .int .i64 c4, .string ln] 41)) := HB.out.trans (b2.mono HB.out.size)
                  exact b3.grown h3 b3.size (fun g hg => by have := (HO.out.row.lt g hg).1; exact this)
              have HKl2 : Hid (∀ y ∈ ys ++ [(⟨kd, st, to1, lb, pk1, ka, kl, kc, c0, c1, c2, c3, c4, ln, kp⟩ : AV)], y.keep.length = y.kl) := by
                intro y hy
                rcases List.mem_append.1 hy with h | h
                · exact HKl.out y h
                · simp only [List.mem_singleton] at h
                  rw [h]
                  exact HOw.out.2.2
              have HOr : Hid (∀ u3, Below Y.heap.size Y u3 → u3.ownsRow W.heap.size 41 12 (.slice ao ys.length cp) ys.length (St.flat AV.cells ys) ∧ W.heap.size ≤ u3.heap.size) := fun u3 hu3 => ⟨own_below HO.out.row (HbY.out.trans (hu3.mono HbY.out.size)), Nat.le_trans hzw hu3.size⟩
              have HyA : Hid (∀ u3, Below Y.heap.size Y u3 → BoxN u3 u2.heap.size 12 [.int .i64 kd, .int .i64 st, .int .i64 to1, .int .i64 lb, .int .i64 pk1, .slice ka kl kc, .int .i64 c0, .int .i64 c1, .int .i64 c2, .int .i64 c3, .int .i64 c4, .string ln]) := fun u3 hu3 => HbA.out.below hu3 HbA.out.lt
              clear J4b hG HE HE4 HO HKl HB HFin HbY HbA HO2 HOw HK hzw hzu hbw
              go_upto_region 15 with (go_at_call 20; refine hCk.mono ?_; rintro e u3 ⟨rfl, hu3⟩)
              have bx4 := HyA.out u3 hu3
              clear x0 x1 x2 y0 y1 y2 y3 y4 y5 y6 y7 y8 y9 y10 y11 zx zy hCk
              have y0 : u3.cell? ⟨u2.heap.size, 0, none⟩ = some (.int .i64 kd) := (bx4.c 0 (by decide)).1
              have y1 : u3.cell? ⟨u2.heap.size, 1, none⟩ = some (.int .i64 st) := (bx4.c 1 (by decide)).1
              have y2 : u3.cell? ⟨u2.heap.size, 2, none⟩ = some (.int .i64 to1) := (bx4.c 2 (by decide)).1
              have y3 : u3.cell? ⟨u2.heap.size, 3, none⟩ = some (.int .i64 lb) := (bx4.c 3 (by decide)).1
              have y4 : u3.cell? ⟨u2.heap.size, 4, none⟩ = some (.int .i64 pk1) := (bx4.c 4 (by decide)).1
              have y5 : u3.cell? ⟨u2.heap.size, 5, none⟩ = some (.slice ka kl kc) := (bx4.c 5 (by decide)).1
              have y6 : u3.cell? ⟨u2.heap.size, 6, none⟩ = some (.int .i64 c0) := (bx4.c 6 (by decide)).1
              have y7 : u3.cell? ⟨u2.heap.size, 7, none⟩ = some (.int .i64 c1) := (bx4.c 7 (by decide)).1
              have y8 : u3.cell? ⟨u2.heap.size, 8, none⟩ = some (.int .i64 c2) := (bx4.c 8 (by decide)).1
              have y9 : u3.cell? ⟨u2.heap.size, 9, none⟩ = some (.int .i64 c3) := (bx4.c 9 (by decide)).1
              have y10 : u3.cell? ⟨u2.heap.size, 10, none⟩ = some (.int .i64 c4) := (bx4.c 10 (by decide)).1
              have y11 : u3.cell? ⟨u2.heap.size, 11, none⟩ = some (.string ln) := (bx4.c 11 (by decide)).1
              have zy := bx4.lt
              obtain ⟨hO3, hz3⟩ := HOr.out u3 hu3
              have HU3 : Hid (Below Y.heap.size Y u3) := hu3
              clear bx4 hu3
              go_wp2_with (at_builtin; go_loud (refine St.wpList_append_row EA (by rfl) _ _ (by rfl) W.heap.size (.slice ao ys.length cp) ys.length ys (by rfl) (own_below hO3 ((Below.refl _ _).alloc (Nat.le_refl _) _)) _ 1 1 [(⟨kd, st, to1, lb, pk1, ka, kl, kc, c0, c1, c2, c3, c4, ln, kp⟩ : AV)] (by rfl) (av1 u3 ⟨kd, st, to1, lb, pk1, ka, kl, kc, c0, c1, c2, c3, c4, ln, kp⟩ _ rfl) (by unfold maxLen; omega) (by omega) (by simp; omega) ?_; intro a5 c5 w5 own5 gr5 at5; have HP5 : Hid (OwnActs w5 W.heap.size (.slice a5 (ys.length + 1) c5) (ys ++ [(⟨kd, st, to1, lb, pk1, ka, kl, kc, c0, c1, c2, c3, c4, ln, kp⟩ : AV)]) ∧ Below W.heap.size W w5) := HPush.out u3 w5 a5 c5 HU3.out own5 gr5))
              go_roundg (gk - 1)
              case rel => exact ⟨T2, a5, c5, ys ++ [(⟨kd, st, to1, lb, pk1, ka, kl, kc, c0, c1, c2, c3, c4, ln, kp⟩ : AV)], k + 1, rfl, by rw [List.length_append]; rfl, by go_num, HJ.out.1, by show _ = _; rw [List.length_append, HJ.out.2]; rfl, by have := HMs.out; exact ⟨by have := this.2.1 (by first | rfl | trivial); omega, by omega⟩, by rw [List.length_append]; exact HP5.out.1, HR2, HKl2, HP5.out.2⟩
              case measure => have := HMs.out; omega
            · have hG2 : (G != 0) = true := by simp [hG]
              have HEG : Hid (∀ u, Below Y.heap.size Y u → ReadTo s ls p t w u (.returned (.tuple #[.slice none 0 0, .int .i64 (k : Int), .int .i64 G]))) := fun u hu => HE.out u (k : Int) G (HbY.out.trans (hu.mono HbY.out.size)) (J3b.out hG)
              clear J3b J4b hG HE HE4 HO HKl HB HFin HbY HbA HO2 HOw
              go_wp2_with (go_at_call 20; refine hCk.mono ?_; rintro e u3 ⟨rfl, hu3⟩; have hE := HEG.out u3 hu3)
              go_ret3
              exact hE
          · have HE5 := HE4.out (J2.out (by
              cases hE2 : E with
              | false => exact Or.inl rfl
              | true =>
                cases hO2 : OKb with
                | false => exact Or.inr (by rw [← HOK.out]; exact hO2)
                | true => exact absurd ⟨hE2, hO2⟩ hEO))
            clear J2 J3 J4 HE HE4 HO HKl HB HFin HbY HbA HO2 HOw HV HOK hbw
            cases E <;> cases OKb
            case true.true => exact absurd ⟨rfl, rfl⟩ hEO
            all_goals
              clear hEO
              go_wp2
              go_ret3
              exact HE5
  · have hF2 : (F != 0) = true := by simp [hF]
    have HE : Hid (∀ u, Below w.heap.size w u → ReadTo s ls p t w u (.returned (.tuple #[.slice none 0 0, .int .i64 0, .int .i64 F]))) := fun u hu => HFin.out u none 0 [] 0 F (by rw [HR.out, if_pos hF]; rfl) (ownActs_nil _ _) (by intro y hy; cases hy) hu
    clear hF HR HFin
    go_wp2_with (go_at_call 19; refine hck.mono ?_; rintro e u0 ⟨rfl, hu0⟩; have hE := HE.out u0 (bW.trans (hu0.mono bW.size)))
    go_ret3
    exact hE
end Go.Proofs.YtlaagfnoepcnlaaDoor.Ln
/- The walk of the law LinesBad: at any numbers it returns true and leaves what was in memory. -/
namespace Go.Proofs.YtlaagfnoepcnlaaDoor.Ln
open Go.ChangeShapes Go.WideShapes Go.ChangeAt Go.RowKit
open Go.Proofs.YtlaagfnoepcnlaaDoor.St (BoxN boxn_new own_below IsRow Elem flat own_isRow)
open Go.Proofs.YtlaagfnoepcnlaaDoor.Pt (LS2 two_any cfg_two)
set_option linter.unusedVariables false

theorem two_two : (1 : Int) + pk 1 3 = 2 := by decide
def oddB (j : Nat) : ByteArray := ⟨(oddL.getD j []).toArray⟩
theorem odd_cells : ∀ j, j < 17 → (#[.string ⟨#[]⟩, .string ⟨#[84, 105, 99, 107, 10]⟩, .string ⟨#[116, 105, 99, 107, 32, 49, 10]⟩, .string ⟨#[97, 115, 107, 32, 48, 32, 48, 10]⟩, .string ⟨#[97, 115, 107, 32, 48, 32, 48, 32, 98, 101, 103, 105, 110, 32, 49, 10]⟩, .string ⟨#[97, 115, 107, 32, 48, 32, 50, 32, 98, 101, 103, 105, 110, 10]⟩, .string ⟨#[97, 115, 107, 32, 48, 32, 48, 32, 103, 101, 116, 32, 49, 32, 48, 10]⟩, .string ⟨#[97, 115, 107, 32, 48, 32, 48, 32, 103, 101, 116, 32, 49, 32, 48, 32, 57, 10]⟩, .string ⟨#[100, 101, 108, 105, 118, 101, 114, 32, 48, 32, 48, 32, 48, 10]⟩, .string ⟨#[100, 101, 108, 105, 118, 101, 114, 32, 50, 32, 48, 32, 48, 32, 48, 10]⟩, .string ⟨#[100, 114, 111, 112, 32, 48, 32, 48, 32, 48, 32, 45, 49, 10]⟩, .string ⟨#[99, 114, 97, 115, 104, 10]⟩, .string ⟨#[99, 114, 97, 115, 104, 32, 48, 32, 48, 32, 48, 32, 48, 10]⟩, .string ⟨#[115, 116, 97, 114, 116, 32, 48, 49, 10]⟩, .string ⟨#[116, 121, 112, 101, 32, 48, 32, 48, 32, 54, 49, 10]⟩, .string ⟨#[116, 121, 112, 101, 32, 48, 32, 48, 32, 46, 54, 10]⟩, .string ⟨#[116, 105, 99, 107]⟩] : Array Value)[j]? = some (.string (oddB j)) := by
  intro j hj
  rcases (by omega : j = 0 ∨ j = 1 ∨ j = 2 ∨ j = 3 ∨ j = 4 ∨ j = 5 ∨ j = 6 ∨ j = 7 ∨ j = 8 ∨ j = 9 ∨ j = 10 ∨ j = 11 ∨ j = 12 ∨ j = 13 ∨ j = 14 ∨ j = 15 ∨ j = 16) with rfl | rfl | rfl | rfl | rfl | rfl | rfl | rfl | rfl | rfl | rfl | rfl | rfl | rfl | rfl | rfl | rfl <;> rfl
theorem err_cells : ∀ j, j < 17 → (#[.int .i64 0, .int .i64 4, .int .i64 4, .int .i64 4, .int .i64 4, .int .i64 2, .int .i64 4, .int .i64 2, .int .i64 4, .int .i64 2, .int .i64 2, .int .i64 4, .int .i64 2, .int .i64 4, .int .i64 4, .int .i64 4, .int .i64 4] : Array Value)[j]? = some (.int .i64 (errL.getD j 0)) := by
  intro j hj
  rcases (by omega : j = 0 ∨ j = 1 ∨ j = 2 ∨ j = 3 ∨ j = 4 ∨ j = 5 ∨ j = 6 ∨ j = 7 ∨ j = 8 ∨ j = 9 ∨ j = 10 ∨ j = 11 ∨ j = 12 ∨ j = 13 ∨ j = 14 ∨ j = 15 ∨ j = 16) with rfl | rfl | rfl | rfl | rfl | rfl | rfl | rfl | rfl | rfl | rfl | rfl | rfl | rfl | rfl | rfl | rfl <;> rfl
theorem linesOf_bd4 {s : Int} {ls : List (Int × Int)} {p : Int} (hl : ls.length ≤ 6) (hs : s ≤ 4) : ∀ (xs : List AV), (∀ x ∈ xs, actFault s ls p x = 0 ∧ x.keep.length = x.kl) → (linesOf xs).length ≤ 2075 * xs.length
  | [], _ => by simp [linesOf]
  | x :: r, h => by
    have h1 := h x (by simp)
    have h2 := actLine_bd (act_ok hl hs h1.2 h1.1)
    have h3 := linesOf_bd4 hl hs r (fun y hy => h y (by simp [hy]))
    simp only [linesOf, actLine, List.length_append, List.length_cons, List.length_nil]
    omega
theorem sT9 {w u v : World} (h1 : Below w.heap.size w u) (h2 : Below u.heap.size u v) : Below w.heap.size w v := h1.trans (h2.mono h1.size)
/-- Cells of a block just laid, and later. -/
theorem new_cells {w Y : World} {cs : Array Value} {t : TypeId} (h : Below (w.alloc (.cells cs t)).heap.size (w.alloc (.cells cs t)) Y) (j : Nat) (x : Value) (hx : cs[j]? = some x) : Y.cell? ⟨w.heap.size, j, none⟩ = some x := by
  rw [h.cell (p := ⟨w.heap.size, j, none⟩) (by simp)]
  have : (w.alloc (.cells cs t)).cell? ⟨w.heap.size, j, none⟩ = cs[j]? := by
    have b := Cn.ObAt.new w cs t
    have hj : j < cs.size := by
      by_cases hj : j < cs.size
      · exact hj
      · rw [Array.getElem?_eq_none (by omega)] at hx; cases hx
    rw [b.cell j]
  rw [this, hx]
set_option maxRecDepth 100000 in
set_option maxHeartbeats 8000000 in
theorem linesBad_walk (aa : Option Addr) (alen acap : Nat) (rs : List RV) (bad : Int) (w : World) (hr : IsRaws w aa alen acap rs) (hb0 : (Lit.int .i64 bad).wf = true) (hT : ∀ U, Below w.heap.size w U → RdT U) :
    Calls Tryd.prog 7 #[.slice aa alen acap, .int .i64 bad] w fun e w' => e = .returned (.bool true) ∧ Below w.heap.size w w' := by
  have bdb : -9223372036854775808 ≤ bad ∧ bad ≤ 9223372036854775807 := by
    simp [Lit.wf, IntKind.min, IntKind.max, IntKind.signed, IntKind.bits] at hb0
    omega
  clear hb0
  have hTwo := fun u => two_any 1 u (by decide)
  rw [two_two] at hTwo
  have HCF : Hid (cfgFault 2 LS2 3 = 0) := cfg_two (by decide) (by decide) (by decide) (by decide)
  go_enter Tryd.func7, Tryd.ntmps7
  go_upto_region 2 with (go_at_call 17; refine (hTwo _).mono ?_; rintro e w1 ⟨g, rfl, hLb, hg, hb1⟩)
  obtain ⟨X, hX⟩ : ∃ X : World, X = w1.alloc (.cells #[.int .i64 2, .slice (some ⟨g, 0, none⟩) 2 2, .int .i64 3] 24) := ⟨_, rfl⟩
  have bX : Below w1.heap.size w1 X := by rw [hX]; exact (Below.refl _ _).alloc (Nat.le_refl _) _
  have bx0 : BoxN X w1.heap.size 3 [.int .i64 2, .slice (some ⟨g, 0, none⟩) 2 2, .int .i64 3] := by rw [hX]; exact boxn_new w1 #[.int .i64 2, .slice (some ⟨g, 0, none⟩) 2 2, .int .i64 3] 24 3 rfl
  rw [← hX]
  clear hX hTwo
  obtain ⟨m0, em0⟩ : ∃ m, m = w1.heap.size := ⟨_, rfl⟩
  rw [← em0] at bx0 ⊢
  have bwX : Below w.heap.size w X := hb1.trans (bX.mono hb1.size)
  obtain ⟨X1, hX1⟩ : ∃ X1 : World, X1 = X.alloc (.cells #[.string ⟨#[]⟩, .string ⟨#[84, 105, 99, 107, 10]⟩, .string ⟨#[116, 105, 99, 107, 32, 49, 10]⟩, .string ⟨#[97, 115, 107, 32, 48, 32, 48, 10]⟩, .string ⟨#[97, 115, 107, 32, 48, 32, 48, 32, 98, 101, 103, 105, 110, 32, 49, 10]⟩, .string ⟨#[97, 115, 107, 32, 48, 32, 50, 32, 98, 101, 103, 105, 110, 10]⟩, .string ⟨#[97, 115, 107, 32, 48, 32, 48, 32, 103, 101, 116, 32, 49, 32, 48, 10]⟩, .string ⟨#[97, 115, 107, 32, 48, 32, 48, 32, 103, 101, 116, 32, 49, 32, 48, 32, 57, 10]⟩, .string ⟨#[100, 101, 108, 105, 118, 101, 114, 32, 48, 32, 48, 32, 48, 10]⟩, .string ⟨#[100, 101, 108, 105, 118, 101, 114, 32, 50, 32, 48, 32, 48, 32, 48, 10]⟩, .string ⟨#[100, 114, 111, 112, 32, 48, 32, 48, 32, 48, 32, 45, 49, 10]⟩, .string ⟨#[99, 114, 97, 115, 104, 10]⟩, .string ⟨#[99, 114, 97, 115, 104, 32, 48, 32, 48, 32, 48, 32, 48, 10]⟩, .string ⟨#[115, 116, 97, 114, 116, 32, 48, 49, 10]⟩, .string ⟨#[116, 121, 112, 101, 32, 48, 32, 48, 32, 54, 49, 10]⟩, .string ⟨#[116, 121, 112, 101, 32, 48, 32, 48, 32, 46, 54, 10]⟩, .string ⟨#[116, 105, 99, 107]⟩] 9) := ⟨_, rfl⟩
  obtain ⟨Y, hY⟩ : ∃ Y : World, Y = X1.alloc (.cells #[.int .i64 0, .int .i64 4, .int .i64 4, .int .i64 4, .int .i64 4, .int .i64 2, .int .i64 4, .int .i64 2, .int .i64 4, .int .i64 2, .int .i64 2, .int .i64 4, .int .i64 2, .int .i64 4, .int .i64 4, .int .i64 4, .int .i64 4] 26) := ⟨_, rfl⟩
  have bX1 : Below X.heap.size X X1 := by rw [hX1]; exact (Below.refl _ _).alloc (Nat.le_refl _) _
  have bY : Below X1.heap.size X1 Y := by rw [hY]; exact (Below.refl _ _).alloc (Nat.le_refl _) _
  have bXY : Below X.heap.size X Y := sT9 bX1 bY
  have KO : Hid (∀ U, Below Y.heap.size Y U → (∀ j, j < 17 → U.cell? ⟨X.heap.size, j, none⟩ = some (.string (oddB j))) ∧ X.heap.size < U.heap.size ∧ (∀ j, j < 17 → U.cell? ⟨X1.heap.size, j, none⟩ = some (.int .i64 (errL.getD j 0))) ∧ X1.heap.size < U.heap.size) := fun U hU => by
    have h1 : Below X1.heap.size X1 U := sT9 bY hU
    have z1 : X.heap.size < X1.heap.size := by rw [hX1]; simp
    have z2 : X1.heap.size < Y.heap.size := by rw [hY]; simp
    have z3 := h1.size
    have z4 := hU.size
    refine ⟨fun j hj => ?_, by omega, fun j hj => ?_, by omega⟩
    · rw [hX1] at h1
      exact new_cells h1 j _ (odd_cells j hj)
    · rw [hY] at hU
      exact new_cells hU j _ (err_cells j hj)
  have KV : Hid (∀ U, Below Y.heap.size Y U → (U.cell? ⟨m0, 0, none⟩ = some (.int .i64 2) ∧ U.cell? ⟨m0, 1, none⟩ = some (.slice (some ⟨g, 0, none⟩) 2 2) ∧ U.cell? ⟨m0, 2, none⟩ = some (.int .i64 3) ∧ m0 < U.heap.size) ∧ IsLabs U (some ⟨g, 0, none⟩) 2 2 LS2 ∧ Below w.heap.size w U) := fun U hU0 => by
    have hU := sT9 bXY hU0
    have h1 := bx0.below hU bx0.lt
    exact ⟨⟨(h1.c 0 (by decide)).1, (h1.c 1 (by decide)).1, (h1.c 2 (by decide)).1, h1.lt⟩, (hLb.below bX).below hU, bwX.trans (hU.mono bwX.size)⟩
  have HTT : Hid (∀ U, Below Y.heap.size Y U → ∀ Z, Below U.heap.size U Z → RdT Z) := fun U hU Z hZ => hT Z ((KV.out U hU).2.2.trans (hZ.mono (KV.out U hU).2.2.size))
  have HRd : Hid (∀ (U : World) (y : List UInt8), Below Y.heap.size Y U → y.length ≤ 140737488355328 → Calls Tryd.prog 11 #[.agg #[.int .i64 2, .slice (some ⟨g, 0, none⟩) 2 2, .int .i64 3], .string ⟨y.toArray⟩] U fun e w' => ReadTo 2 LS2 3 y U w' e) := fun U y hU hy => read_any 2 3 (some ⟨g, 0, none⟩) 2 2 LS2 y U (KV.out U hU).2.1 hy (HTT.out U hU)
  have HSh : Hid (∀ (U : World) (xa : Option Addr) (n xc : Nat) (xs : List AV), Below Y.heap.size Y U → IsActs U xa n xc xs → n ≤ 3000 → (∀ x ∈ xs, actFault 2 LS2 3 x = 0) → Calls Tryd.prog 9 #[.agg #[.int .i64 2, .slice (some ⟨g, 0, none⟩) 2 2, .int .i64 3], .slice xa n xc] U fun e w' => e = .returned (.tuple #[.string ⟨(linesOf xs).toArray⟩, .int .i64 0, .int .i64 0]) ∧ Below U.heap.size U w') := fun U xa n xc xs hU hx hn hf => by
    have h := show_any 2 3 (some ⟨g, 0, none⟩) 2 2 LS2 xa n xc xs U (KV.out U hU).2.1 hx (fun Z hZ => (HTT.out U hU Z hZ).ln)
    rw [shAll_ok HCF.out (by rw [hx.1]; exact hn) hf] at h
    exact h
  have hrY := hr.below (KV.out Y (Below.refl _ _)).2.2
  have hAc : Calls Tryd.prog 15 #[.agg #[.int .i64 2, .slice (some ⟨g, 0, none⟩) 2 2, .int .i64 3], .slice aa alen acap, .int .i64 12, .bool true] Y fun e w' => ∃ (ao : Option Addr) (cp : Nat) (ys : List AV), e = .returned (.slice ao ys.length cp) ∧ (∃ B : Nat, Y.heap.size ≤ B ∧ OwnActs w' B (.slice ao ys.length cp) ys) ∧ (∀ y ∈ ys, Fine 2 2 y) ∧ ys.length ≤ 14 ∧ Below Y.heap.size Y w' := acts_most 2 3 (some ⟨g, 0, none⟩) 2 2 aa alen acap rs Y (by decide) (by decide) hrY 12 (by decide)
  clear hr hT hLb hb1 bX bx0 em0 hg hrY bwX bX1 bY
  obtain ⟨⟨c0, c1, c2, zc⟩, -, -⟩ := KV.out Y (Below.refl _ _)
  go_upto_region 4 with (fail)
  rw [← hX1]
  rw [show X.heap.size + 1 = X1.heap.size by rw [hX1]; simp]
  rw [← hY]
  clear hX1 hY
  obtain ⟨go, ego⟩ : ∃ x, x = X.heap.size := ⟨_, rfl⟩
  obtain ⟨ge, ege⟩ : ∃ x, x = X1.heap.size := ⟨_, rfl⟩
  rw [← ego, ← ege] at KO ⊢
  clear ego ege bXY
  go_upto_region 5 with (go_at_call 15; refine hAc.mono ?_; rintro e u1 ⟨a2, k2, ys, rfl, ⟨B2, hB2, hO2⟩, hF2, hl2, bu1⟩)
  clear c0 c1 c2 zc hAc
  have hpk := fun u => picked_any bad 17 u bdb (by omega) (by omega)
  obtain ⟨j, ej⟩ : ∃ j : Nat, pk bad 17 = (j : Int) := ⟨(pk bad 17).toNat, by have := pk_bd bad 17 (by omega); omega⟩
  have hj : j < 17 := by have := pk_bd bad 17 (by omega); omega
  rw [ej] at hpk
  clear ej bdb
  go_upto_region 6 with (go_at_call 18; refine (hpk _).mono ?_; rintro e u9 ⟨rfl, hu9⟩; rw [hu9]; clear hu9)
  clear hpk
  obtain ⟨⟨c0, c1, c2, zc⟩, -, -⟩ := KV.out u1 bu1
  have hfy : ∀ y ∈ ys, actFault 2 LS2 3 y = 0 := fun y hy => (hF2 y hy).fault HCF.out rfl
  have hia := hO2.isActs.2
  have hS1 := HSh.out u1 a2 ys.length k2 ys bu1 hia (by omega) hfy
  have HFY : Hid (∀ y ∈ ys, actFault 2 LS2 3 y = 0 ∧ y.keep.length = y.kl) := fun y hy => ⟨hfy y hy, (ints_of_own (hO2.keeps y hy).1 (hO2.keeps y hy).2).1⟩
  clear hF2 hfy hia hO2 hB2 HSh
  obtain ⟨n, en⟩ : ∃ n, n = ys.length := ⟨_, rfl⟩
  have HN : Hid (n = ys.length) := en
  rw [← en] at hS1 hl2 ⊢
  clear en
  go_upto_region 7 with (go_at_call 9; refine hS1.mono ?_; rintro e u2 ⟨rfl, hu2⟩)
  clear c0 c1 c2 zc hS1
  have b2 : Below Y.heap.size Y u2 := bu1.trans (hu2.mono bu1.size)
  obtain ⟨N7, eN⟩ : ∃ N7 : Nat, N7 = if j = 0 then n else 0 := ⟨_, rfl⟩
  obtain ⟨I7, eI⟩ : ∃ I7 : Int, I7 = if j = 0 then 0 else (n : Int) := ⟨_, rfl⟩
  obtain ⟨E7, eE⟩ : ∃ E7 : Int, E7 = if j = 0 then 0 else errL.getD j 0 := ⟨_, rfl⟩
  obtain ⟨S0, eS0⟩ : ∃ x : ByteArray, x = ⟨(linesOf ys).toArray⟩ := ⟨_, rfl⟩
  obtain ⟨SO, eSO⟩ : ∃ x : ByteArray, x = oddB j := ⟨_, rfl⟩
  have hz : ¬ (9223372036854775807 < S0.size + SO.size) := by
    have h1 := linesOf_bd4 (s := 2) (ls := LS2) (p := 3) (by decide) (by decide) ys HFY.out
    have h2 := odd_len j hj
    have h3 : S0.size = (linesOf ys).length := by rw [eS0]; rfl
    have h4 : SO.size = (oddL.getD j []).length := by rw [eSO]; rfl
    have := HN.out
    omega
  have HRd2 : Hid (∀ (U : World), Below u2.heap.size u2 U → Calls Tryd.prog 11 #[.agg #[.int .i64 2, .slice (some ⟨g, 0, none⟩) 2 2, .int .i64 3], .string (S0 ++ SO)] U fun e w' => ∃ (ao : Option Addr) (cp : Nat), e = .returned (.tuple #[.slice ao N7 cp, .int .i64 I7, .int .i64 E7]) ∧ Below U.heap.size U w') := fun U hU => by
    have h1 := linesOf_bd4 (s := 2) (ls := LS2) (p := 3) (by decide) (by decide) ys HFY.out
    have h2 := odd_len j hj
    have hn := HN.out
    have h := HRd.out U (linesOf ys ++ oddL.getD j []) (sT9 b2 hU) (by rw [List.length_append]; omega)
    have e1 : (⟨(linesOf ys ++ oddL.getD j []).toArray⟩ : ByteArray) = S0 ++ SO := by
      rw [eS0, eSO]
      unfold oddB
      apply ByteArray.ext
      simp
    rw [e1] at h
    refine h.mono ?_
    rintro e w' ⟨ao, cp, zs, he, hO, hzs, hk, hb⟩
    rw [bad_all j hj ys (by omega) HFY.out] at he hzs
    by_cases h0 : j = 0
    · rw [if_pos h0] at he hzs eN eI eE
      have hl : zs.length = ys.length := by have := congrArg List.length hzs; simpa using this
      rw [hl, ← hn] at he
      rw [eN, eI, eE]
      exact ⟨ao, cp, he, hb⟩
    · rw [if_neg h0] at he hzs eN eI eE
      have hl : zs.length = 0 := by have := congrArg List.length hzs; simpa using this
      rw [hl, ← hn] at he
      rw [eN, eI, eE]
      exact ⟨ao, cp, he, hb⟩
  have KC : Hid (∀ U, Below u2.heap.size u2 U → U.cell? ⟨m0, 0, none⟩ = some (.int .i64 2) ∧ U.cell? ⟨m0, 1, none⟩ = some (.slice (some ⟨g, 0, none⟩) 2 2) ∧ U.cell? ⟨m0, 2, none⟩ = some (.int .i64 3) ∧ m0 < U.heap.size ∧ U.cell? ⟨go, j, none⟩ = some (.string SO) ∧ go < U.heap.size ∧ U.cell? ⟨ge, j, none⟩ = some (.int .i64 (errL.getD j 0)) ∧ ge < U.heap.size ∧ Below w.heap.size w U) := fun U hU => by
    have hU2 := sT9 b2 hU
    obtain ⟨⟨h1, h2, h3, h4⟩, -, h6⟩ := KV.out U hU2
    obtain ⟨o1, o2, o3, o4⟩ := KO.out U hU2
    exact ⟨h1, h2, h3, h4, by rw [eSO]; exact o1 j hj, o2, o3 j hj, o4, h6⟩
  have HSO : Hid (SO = oddB j) := eSO
  have HNE : Hid (N7 = (if j = 0 then n else 0) ∧ I7 = (if j = 0 then 0 else (n : Int)) ∧ E7 = (if j = 0 then 0 else errL.getD j 0)) := ⟨eN, eI, eE⟩
  have j0 : (0 : Int) ≤ (j : Int) := by omega
  have j17 : (j : Int) < 17 := by omega
  rw [← eS0]
  have HSz : Hid (¬ (9223372036854775807 < S0.size + SO.size)) := hz
  clear eS0 eSO eN eI eE b2 KV KO HTT HRd HFY HN hz hu2 bu1 HCF
  refine wp_region_inv (by kernel_rfl) [34, 35, 36, 37, 38, 39, 40, 41, 33, 42, 43, 44, 13, 14, 15] (fun L T u => ∃ (a7 : Option Addr) (c7 : Nat), Below u2.heap.size u2 u ∧ (L 0 = true → T 34 = .agg #[.int .i64 2, .slice (some ⟨g, 0, none⟩) 2 2, .int .i64 3]) ∧ (L 1 = true → T 35 = .string S0) ∧ (L 2 = true → T 36 = .slice (some ⟨go, 0, none⟩) 17 17) ∧ (L 3 = true → T 37 = .int .i64 (j : Int)) ∧ (L 4 = true → T 38 = .pointer (some ⟨go, j, none⟩)) ∧ (L 5 = true → T 39 = .string SO) ∧ (L 6 = true → T 40 = .string (S0 ++ SO)) ∧ (L 7 = true → T 41 = .tuple #[.slice a7 N7 c7, .int .i64 I7, .int .i64 E7]) ∧ (L 8 = true → T 33 = .tuple #[.slice a7 N7 c7, .int .i64 I7, .int .i64 E7]) ∧ (L 9 = true → T 42 = .slice a7 N7 c7) ∧ (L 10 = true → T 43 = .int .i64 I7) ∧ (L 11 = true → T 44 = .int .i64 E7) ∧ (L 12 = true → T 13 = .slice a7 N7 c7) ∧ (L 13 = true → T 14 = .int .i64 I7) ∧ (L 14 = true → T 15 = .int .i64 E7)) (by decide) (by kernel_rfl) (by kernel_rfl) ?_ ?_ ?_
  · exact ⟨none, 0, (Below.refl _ _).drew, nofun, nofun, nofun, nofun, nofun, nofun, nofun, nofun, nofun, nofun, nofun, nofun, nofun, nofun, nofun⟩
  · refine ⟨?_, ?_, ?_, ?_, ?_, ?_, ?_, ?_, ?_, ?_, ?_, ?_, ?_, ?_, ?_, trivial⟩
    · rintro L T u hd hk hcl ⟨a7, c7, hb, p0, p1, p2, p3, p4, p5, p6, p7, p8, p9, p10, p11, p12, p13, p14⟩ K hK
      simp only [fr, Act.put, List.setIfInBounds_toArray, List.set_cons_zero, List.set_cons_succ, updO] at hK ⊢
      simp [Region.binds] at hd
      obtain ⟨c0, c1, c2, zc, d0, zd, -, -, -⟩ := KC.out u hb
      rw [if_pos (by rfl)]
      simp only [Oper.wpv]
      go_simp
      exact hK _ _ ⟨a7, c7, hb, fun _ => rfl, p1, p2, p3, p4, p5, p6, p7, p8, p9, p10, p11, p12, p13, p14⟩
    · rintro L T u hd hk hcl ⟨a7, c7, hb, p0, p1, p2, p3, p4, p5, p6, p7, p8, p9, p10, p11, p12, p13, p14⟩ K hK
      simp only [fr, Act.put, List.setIfInBounds_toArray, List.set_cons_zero, List.set_cons_succ, updO] at hK ⊢
      simp [Region.binds] at hd
      rw [if_pos (by rfl)]
      simp only [Oper.wpv]
      go_simp
      exact hK _ _ ⟨a7, c7, hb, p0, fun _ => rfl, p2, p3, p4, p5, p6, p7, p8, p9, p10, p11, p12, p13, p14⟩
    · rintro L T u hd hk hcl ⟨a7, c7, hb, p0, p1, p2, p3, p4, p5, p6, p7, p8, p9, p10, p11, p12, p13, p14⟩ K hK
      simp only [fr, Act.put, List.setIfInBounds_toArray, List.set_cons_zero, List.set_cons_succ, updO] at hK ⊢
      simp [Region.binds] at hd
      rw [if_pos (by rfl)]
      simp only [Oper.wpv]
      go_simp
      exact hK _ _ ⟨a7, c7, hb, p0, p1, fun _ => rfl, p3, p4, p5, p6, p7, p8, p9, p10, p11, p12, p13, p14⟩
    · rintro L T u hd hk hcl ⟨a7, c7, hb, p0, p1, p2, p3, p4, p5, p6, p7, p8, p9, p10, p11, p12, p13, p14⟩ K hK
      simp only [fr, Act.put, List.setIfInBounds_toArray, List.set_cons_zero, List.set_cons_succ, updO] at hK ⊢
      simp [Region.binds] at hd
      rw [if_pos (by rfl)]
      simp only [Oper.wpv]
      go_simp
      exact hK _ _ ⟨a7, c7, hb, p0, p1, p2, fun _ => rfl, p4, p5, p6, p7, p8, p9, p10, p11, p12, p13, p14⟩
    · rintro L T u hd hk hcl ⟨a7, c7, hb, p0, p1, p2, p3, p4, p5, p6, p7, p8, p9, p10, p11, p12, p13, p14⟩ K hK
      simp only [fr, Act.put, List.setIfInBounds_toArray, List.set_cons_zero, List.set_cons_succ, updO] at hK ⊢
      simp [Region.binds] at hd
      have g2 := p2 (by simp [hd])
      have g3 := p3 (by simp [hd])
      have k0 := j0
      have k17 := j17
      rw [if_pos (by rfl)]
      simp only [Oper.wpv]
      go_simp
      exact hK _ _ ⟨a7, c7, hb, p0, p1, p2, p3, fun _ => rfl, p5, p6, p7, p8, p9, p10, p11, p12, p13, p14⟩
    · rintro L T u hd hk hcl ⟨a7, c7, hb, p0, p1, p2, p3, p4, p5, p6, p7, p8, p9, p10, p11, p12, p13, p14⟩ K hK
      simp only [fr, Act.put, List.setIfInBounds_toArray, List.set_cons_zero, List.set_cons_succ, updO] at hK ⊢
      simp [Region.binds] at hd
      have g4 := p4 (by simp [hd])
      obtain ⟨c0, c1, c2, zc, d0, zd, -, -, -⟩ := KC.out u hb
      rw [if_pos (by rfl)]
      simp only [Oper.wpv]
      go_simp
      exact hK _ _ ⟨a7, c7, hb, p0, p1, p2, p3, p4, fun _ => rfl, p6, p7, p8, p9, p10, p11, p12, p13, p14⟩
    · rintro L T u hd hk hcl ⟨a7, c7, hb, p0, p1, p2, p3, p4, p5, p6, p7, p8, p9, p10, p11, p12, p13, p14⟩ K hK
      simp only [fr, Act.put, List.setIfInBounds_toArray, List.set_cons_zero, List.set_cons_succ, updO] at hK ⊢
      simp [Region.binds] at hd
      have g1 := p1 (by simp [hd])
      have g5 := p5 (by simp [hd])
      have hz := HSz.out
      rw [if_pos (by rfl)]
      simp only [Oper.wpv]
      go_simp
      exact hK _ _ ⟨a7, c7, hb, p0, p1, p2, p3, p4, p5, fun _ => rfl, p7, p8, p9, p10, p11, p12, p13, p14⟩
    · rintro L T u hd hk hcl ⟨a7, c7, hb, p0, p1, p2, p3, p4, p5, p6, p7, p8, p9, p10, p11, p12, p13, p14⟩ K hK
      simp only [fr, Act.put, List.setIfInBounds_toArray, List.set_cons_zero, List.set_cons_succ, updO] at hK ⊢
      simp [Region.binds] at hd
      have g0 := p0 (by simp [hd])
      have g6 := p6 (by simp [hd])
      have k8 := hcl 8 _ rfl
      simp [Region.binds] at k8
      have k9 := hcl 9 _ rfl
      simp [Region.binds] at k9
      have k10 := hcl 10 _ rfl
      simp [Region.binds] at k10
      have k11 := hcl 11 _ rfl
      simp [Region.binds] at k11
      have k12 := hcl 12 _ rfl
      simp [Region.binds] at k12
      have k13 := hcl 13 _ rfl
      simp [Region.binds] at k13
      have k14 := hcl 14 _ rfl
      simp [Region.binds] at k14
      rw [if_pos (by rfl)]
      simp only [Oper.wpv]
      go_simp
      refine (HRd2.out _ hb).mono ?_
      rintro e u1 ⟨b7, d7, rfl, hg⟩
      exact hK _ _ ⟨b7, d7, sT9 hb hg, p0, p1, p2, p3, p4, p5, p6, fun _ => rfl, fun h => absurd (show L 8 = true from h) (by intro hh; have a8 := k8 hh; simp [hk] at a8), fun h => absurd (show L 9 = true from h) (by intro hh; have a9 := k9 hh; have a8 := k8 (by simp [a9]); simp [hk] at a8), fun h => absurd (show L 10 = true from h) (by intro hh; have a10 := k10 hh; have a8 := k8 (by simp [a10]); simp [hk] at a8), fun h => absurd (show L 11 = true from h) (by intro hh; have a11 := k11 hh; have a8 := k8 (by simp [a11]); simp [hk] at a8), fun h => absurd (show L 12 = true from h) (by intro hh; have a12 := k12 hh; have a9 := k9 (by simp [a12]); have a8 := k8 (by simp [a9]); simp [hk] at a8), fun h => absurd (show L 13 = true from h) (by intro hh; have a13 := k13 hh; have a10 := k10 (by simp [a13]); have a8 := k8 (by simp [a10]); simp [hk] at a8), fun h => absurd (show L 14 = true from h) (by intro hh; have a14 := k14 hh; have a11 := k11 (by simp [a14]); have a8 := k8 (by simp [a11]); simp [hk] at a8)⟩
    · rintro L T u hd hk hcl ⟨a7, c7, hb, p0, p1, p2, p3, p4, p5, p6, p7, p8, p9, p10, p11, p12, p13, p14⟩ K hK
      simp only [fr, Act.put, List.setIfInBounds_toArray, List.set_cons_zero, List.set_cons_succ, updO] at hK ⊢
      simp [Region.binds] at hd
      have g7 := p7 (by simp [hd])
      rw [if_pos (by rfl)]
      simp only [Oper.wpv]
      go_simp
      exact hK _ _ ⟨a7, c7, hb, p0, p1, p2, p3, p4, p5, p6, p7, fun _ => rfl, p9, p10, p11, p12, p13, p14⟩
    · rintro L T u hd hk hcl ⟨a7, c7, hb, p0, p1, p2, p3, p4, p5, p6, p7, p8, p9, p10, p11, p12, p13, p14⟩ K hK
      simp only [fr, Act.put, List.setIfInBounds_toArray, List.set_cons_zero, List.set_cons_succ, updO] at hK ⊢
      simp [Region.binds] at hd
      have g8 := p8 (by simp [hd])
      rw [if_pos (by rfl)]
      simp only [Oper.wpv]
      go_simp
      exact hK _ _ ⟨a7, c7, hb, p0, p1, p2, p3, p4, p5, p6, p7, p8, fun _ => rfl, p10, p11, p12, p13, p14⟩
    · rintro L T u hd hk hcl ⟨a7, c7, hb, p0, p1, p2, p3, p4, p5, p6, p7, p8, p9, p10, p11, p12, p13, p14⟩ K hK
      simp only [fr, Act.put, List.setIfInBounds_toArray, List.set_cons_zero, List.set_cons_succ, updO] at hK ⊢
      simp [Region.binds] at hd
      have g8 := p8 (by simp [hd])
      rw [if_pos (by rfl)]
      simp only [Oper.wpv]
      go_simp
      exact hK _ _ ⟨a7, c7, hb, p0, p1, p2, p3, p4, p5, p6, p7, p8, p9, fun _ => rfl, p11, p12, p13, p14⟩
    · rintro L T u hd hk hcl ⟨a7, c7, hb, p0, p1, p2, p3, p4, p5, p6, p7, p8, p9, p10, p11, p12, p13, p14⟩ K hK
      simp only [fr, Act.put, List.setIfInBounds_toArray, List.set_cons_zero, List.set_cons_succ, updO] at hK ⊢
      simp [Region.binds] at hd
      have g8 := p8 (by simp [hd])
      rw [if_pos (by rfl)]
      simp only [Oper.wpv]
      go_simp
      exact hK _ _ ⟨a7, c7, hb, p0, p1, p2, p3, p4, p5, p6, p7, p8, p9, p10, fun _ => rfl, p12, p13, p14⟩
    · rintro L T u hd hk hcl ⟨a7, c7, hb, p0, p1, p2, p3, p4, p5, p6, p7, p8, p9, p10, p11, p12, p13, p14⟩ K hK
      simp only [fr, Act.put, List.setIfInBounds_toArray, List.set_cons_zero, List.set_cons_succ, updO] at hK ⊢
      simp [Region.binds] at hd
      have g9 := p9 (by simp [hd])
      rw [if_pos (by rfl)]
      simp only [Oper.wpv]
      go_simp
      exact hK _ _ ⟨a7, c7, hb, p0, p1, p2, p3, p4, p5, p6, p7, p8, p9, p10, p11, fun _ => rfl, p13, p14⟩
    · rintro L T u hd hk hcl ⟨a7, c7, hb, p0, p1, p2, p3, p4, p5, p6, p7, p8, p9, p10, p11, p12, p13, p14⟩ K hK
      simp only [fr, Act.put, List.setIfInBounds_toArray, List.set_cons_zero, List.set_cons_succ, updO] at hK ⊢
      simp [Region.binds] at hd
      have g10 := p10 (by simp [hd])
      rw [if_pos (by rfl)]
      simp only [Oper.wpv]
      go_simp
      exact hK _ _ ⟨a7, c7, hb, p0, p1, p2, p3, p4, p5, p6, p7, p8, p9, p10, p11, p12, fun _ => rfl, p14⟩
    · rintro L T u hd hk hcl ⟨a7, c7, hb, p0, p1, p2, p3, p4, p5, p6, p7, p8, p9, p10, p11, p12, p13, p14⟩ K hK
      simp only [fr, Act.put, List.setIfInBounds_toArray, List.set_cons_zero, List.set_cons_succ, updO] at hK ⊢
      simp [Region.binds] at hd
      have g11 := p11 (by simp [hd])
      rw [if_pos (by rfl)]
      simp only [Oper.wpv]
      go_simp
      exact hK _ _ ⟨a7, c7, hb, p0, p1, p2, p3, p4, p5, p6, p7, p8, p9, p10, p11, p12, p13, fun _ => rfl⟩
  · rintro L T u hl ⟨a7, c7, hb, p0, p1, p2, p3, p4, p5, p6, p7, p8, p9, p10, p11, p12, p13, p14⟩
    simp only [fr, Act.put, List.setIfInBounds_toArray, List.set_cons_zero, List.set_cons_succ]
    have h13 := p12 (hl 12 (by decide))
    have h14 := p13 (hl 13 (by decide))
    have h15 := p14 (hl 14 (by decide))
    clear p0 p1 p2 p3 p4 p5 p6 p7 p8 p9 p10 p11 p12 p13 p14 HRd2 HSz
    rw [h13, h14, h15]
    clear h13 h14 h15
    obtain ⟨c0, c1, c2, zc, d0, zd, d1, ze, hbw⟩ := KC.out u hb
    obtain ⟨hN, hI, hE⟩ := HNE.out
    obtain ⟨L, eL⟩ : ∃ L, L = oddL.getD j [] := ⟨_, rfl⟩
    have hSL : SO = ⟨L.toArray⟩ := by rw [HSO.out, eL]; rfl
    rw [hSL] at d0
    clear hSL
    by_cases h0 : j = 0
    · have hSO : L = [] := by rw [eL, h0]; rfl
      subst hSO
      clear eL
      rw [if_pos h0] at hN hI hE
      subst hN hI hE
      clear HSO KC HNE c0 c1 c2 zc d1 ze h0
      go_wp2
      go_ret
      exact ⟨rfl, hbw⟩
    · have hSO : L.isEmpty = false := by
        rw [eL]
        have : ∀ i, i < 17 → i ≠ 0 → (oddL.getD i []).isEmpty = false := by decide
        exact this j hj h0
      clear eL
      rw [if_neg h0] at hN hI hE
      obtain ⟨ER, eER⟩ : ∃ ER, ER = errL.getD j 0 := ⟨_, rfl⟩
      rw [← eER] at hE d1
      subst hN hI hE
      clear HSO KC HNE c0 c1 c2 zc h0 eER
      go_wp2
      go_ret
      exact ⟨rfl, hbw⟩
end Go.Proofs.YtlaagfnoepcnlaaDoor.Ln
/- Closed facts of the row of LinesBad, by the kernel. -/
namespace Go.Proofs.YtlaagfnoepcnlaaDoor.linesBadProof
set_option maxRecDepth 100000
theorem c_inPlace : (Rows.linesBadRow.inPlace == Tryd.pinned.checked.prog.inPlace 7) = true := by kernel_rfl
end Go.Proofs.YtlaagfnoepcnlaaDoor.linesBadProof
