/- Texts of this claim, one behind the other. -/
import Derived.Test.YtlaagfnoepcnlaaDoorM24LinesFixed
import Derived.Test.YtlaagfnoepcnlaaDoorM18LinesFixed
import Derived.Test.YtlaagfnoepcnlaaDoorRows
import Derived.JoinedOf
import Derived.KernelRfl
/- The walk of the law LinesFixed: at any numbers and any text it returns true and leaves what was in memory. -/
namespace Go.Proofs.YtlaagfnoepcnlaaDoor.Ln
open Go.ChangeShapes Go.WideShapes Go.ChangeAt Go.RowKit
open Go.Proofs.YtlaagfnoepcnlaaDoor.St (BoxN boxn_new own_below IsRow Elem flat own_isRow)
set_option linter.unusedVariables false

theorem odd_read {s p : Int} {ls : List (Int × Int)} (hc : cfgFault s ls p = 0) (h1 : actFault s ls p (mkA 5 [0, 0, 0, 0] [] CV.nil []) = 0) : rdAll s ls p [116, 105, 99, 107, 10, 116, 97, 99, 107, 10] = ([], 1, 4) := by
  unfold rdAll
  rw [if_neg (by simp [hc])]
  have e : spc 10 [116, 105, 99, 107, 10, 116, 97, 99, 107, 10] = [[116, 105, 99, 107], [116, 97, 99, 107], []] := by decide
  have e1 : lnAct [116, 105, 99, 107] = some (mkA 5 [0, 0, 0, 0] [] CV.nil []) := by rfl
  have e2 : lnAct [116, 97, 99, 107] = none := by rfl
  rw [e, rdL, if_neg (by omega), e1]
  simp only [if_pos h1]
  rw [rdL, if_neg (by omega), e2]
  rfl
theorem tick_ok {s p : Int} {ls : List (Int × Int)} (hc : cfgFault s ls p = 0) : actFault s ls p (mkA 5 [0, 0, 0, 0] [] CV.nil []) = 0 := by
  have := cfg_zero hc
  unfold actFault
  rw [if_neg (by simp [hc])]
  have i1 : inR (mkA 5 [0, 0, 0, 0] [] CV.nil []).kind 1 8 = true := by decide
  have i2 : actIn s ls.length (mkA 5 [0, 0, 0, 0] [] CV.nil []) = true := by
    simp [actIn, keepIn, mkA, inR, plc, ByteArray.size]
    omega
  rw [i1, i2]
  rfl
theorem fixed_all {s p : Int} {ls : List (Int × Int)} (hc : cfgFault s ls p = 0) (t : List UInt8) : ((rdAll s ls p t).2.2 ≠ 0 ∧ (rdAll s ls p t).1 = [] ∧ 0 ≤ (rdAll s ls p t).2.1) ∨ ∃ xs, rdAll s ls p t = (xs, 0, 0) ∧ t = linesOf xs ∧ (∀ x ∈ xs, actFault s ls p x = 0) ∧ xs.length ≤ 3000 := by
  have hz := cfg_zero hc
  have h := rdL_fixed (s := s) (ls := ls) (p := p) (by omega) hc t.length t 0 [] (Nat.le_refl _) (by omega)
  have e : rdAll s ls p t = rdL s ls p 0 [] (spc 10 t) := by unfold rdAll; rw [if_neg (by simp [hc])]
  rw [e]
  rcases h with h | ⟨xs, h1, h2, h3, h4⟩
  · exact Or.inl h
  · exact Or.inr ⟨xs, by simpa using h1, h2, h3, by omega⟩
set_option maxRecDepth 100000 in
set_option maxHeartbeats 8000000 in
theorem linesFixed_walk (s : Int) (a1 : Option Addr) (len1 cap1 : Nat) (zs : List Int) (t : List UInt8) (w : World) (hs : (Lit.int .i64 s).wf = true) (hz : IsInts w a1 len1 cap1 zs) (ht : t.length ≤ 140737488355328) (hT : ∀ U, Below w.heap.size w U → RdT U) :
    Calls Tryd.prog 6 #[.int .i64 s, .slice a1 len1 cap1, .string ⟨t.toArray⟩] w fun e w' => e = .returned (.bool true) ∧ Below w.heap.size w w' := by
  have bds : -9223372036854775808 ≤ s ∧ s ≤ 9223372036854775807 := by
    simp [Lit.wf, IntKind.min, IntKind.max, IntKind.signed, IntKind.bits] at hs
    omega
  clear hs
  have hCf := Kp.cfg_goodP s 1 a1 len1 cap1 zs w bds (by omega) hz
  clear hz
  go_enter Tryd.func6, Tryd.ntmps6
  go_upto_region 2 with (go_at_call 14; refine hCf.mono ?_; rintro e w1 ⟨S, P, g0, nl, cpl, LB, rfl, hG, hb1⟩)
  clear hCf
  obtain ⟨X, eX⟩ : ∃ X : World, X = w1.alloc (.cells #[.int .i64 S, .slice (some ⟨g0, 0, none⟩) nl cpl, .int .i64 P] 24) := ⟨_, rfl⟩
  have cb : BoxN X w1.heap.size 3 [.int .i64 S, .slice (some ⟨g0, 0, none⟩) nl cpl, .int .i64 P] := by rw [eX]; exact boxn_new w1 #[.int .i64 S, .slice (some ⟨g0, 0, none⟩) nl cpl, .int .i64 P] 24 3 rfl
  have bX : Below w1.heap.size w1 X := by rw [eX]; exact (Below.refl _ _).alloc (Nat.le_refl _) _
  rw [← eX]
  clear eX
  have bwX := hb1.trans (bX.mono hb1.size)
  have hc := hG.ok
  obtain ⟨m0, em0⟩ : ∃ m, m = w1.heap.size := ⟨_, rfl⟩
  rw [← em0] at cb ⊢
  have KV : Hid (∀ U, Below X.heap.size X U → (U.cell? ⟨m0, 0, none⟩ = some (.int .i64 S) ∧ U.cell? ⟨m0, 1, none⟩ = some (.slice (some ⟨g0, 0, none⟩) nl cpl) ∧ U.cell? ⟨m0, 2, none⟩ = some (.int .i64 P) ∧ m0 < U.heap.size) ∧ IsLabs U (some ⟨g0, 0, none⟩) nl cpl LB ∧ Below w.heap.size w U) := fun U hU => by
    have h1 := cb.below hU cb.lt
    exact ⟨⟨(h1.c 0 (by decide)).1, (h1.c 1 (by decide)).1, (h1.c 2 (by decide)).1, h1.lt⟩, (hG.labs.below bX).below hU, bwX.trans (hU.mono bwX.size)⟩
  have HTT : Hid (∀ U, Below X.heap.size X U → ∀ Z, Below U.heap.size U Z → RdT Z) := fun U hU Z hZ => hT Z ((KV.out U hU).2.2.trans (hZ.mono (KV.out U hU).2.2.size))
  have HRd : Hid (∀ (U : World) (y : List UInt8), Below X.heap.size X U → y.length ≤ 140737488355328 → Calls Tryd.prog 11 #[.agg #[.int .i64 S, .slice (some ⟨g0, 0, none⟩) nl cpl, .int .i64 P], .string ⟨y.toArray⟩] U fun e w' => ReadTo S LB P y U w' e) := fun U y hU hy => read_any S P (some ⟨g0, 0, none⟩) nl cpl LB y U (KV.out U hU).2.1 hy (HTT.out U hU)
  have HSh : Hid (∀ (U : World) (xa : Option Addr) (n xc : Nat) (xs : List AV), Below X.heap.size X U → IsActs U xa n xc xs → n ≤ 3000 → (∀ x ∈ xs, actFault S LB P x = 0) → Calls Tryd.prog 9 #[.agg #[.int .i64 S, .slice (some ⟨g0, 0, none⟩) nl cpl, .int .i64 P], .slice xa n xc] U fun e w' => e = .returned (.tuple #[.string ⟨(linesOf xs).toArray⟩, .int .i64 0, .int .i64 0]) ∧ Below U.heap.size U w') := fun U xa n xc xs hU hx hn hf => by
    have h := show_any S P (some ⟨g0, 0, none⟩) nl cpl LB xa n xc xs U (KV.out U hU).2.1 hx (fun Z hZ => (HTT.out U hU Z hZ).ln)
    rw [shAll_ok hc (by rw [hx.1]; exact hn) hf] at h
    exact h
  have HODD : Hid (rdAll S LB P [116, 105, 99, 107, 10, 116, 97, 99, 107, 10] = ([], 1, 4)) := odd_read hc (tick_ok hc)
  have HAll : Hid (((rdAll S LB P t).2.2 ≠ 0 ∧ (rdAll S LB P t).1 = [] ∧ 0 ≤ (rdAll S LB P t).2.1) ∨ ∃ xs, rdAll S LB P t = (xs, 0, 0) ∧ t = linesOf xs ∧ (∀ x ∈ xs, actFault S LB P x = 0) ∧ xs.length ≤ 3000) := fixed_all hc t
  obtain ⟨⟨c0, c1, c2, zc⟩, -, -⟩ := KV.out X (Below.refl _ _)
  have hR1 := HRd.out X t (Below.refl _ _) ht
  have hR2 := fun (U : World) (hU : Below X.heap.size X U) => HRd.out U [116, 105, 99, 107, 10, 116, 97, 99, 107, 10] hU (by decide)
  have HR2 : Hid (∀ (U : World), Below X.heap.size X U → Calls Tryd.prog 11 #[.agg #[.int .i64 S, .slice (some ⟨g0, 0, none⟩) nl cpl, .int .i64 P], .string ⟨#[116, 105, 99, 107, 10, 116, 97, 99, 107, 10]⟩] U fun e w' => ∃ (ao : Option Addr) (cp : Nat) (n : Nat), e = .returned (.tuple #[.slice ao n cp, .int .i64 1, .int .i64 4]) ∧ Below U.heap.size U w') := fun U hU => (hR2 U hU).mono fun e w' ⟨ao, cp, ys, he, hO, hys, hk, hb⟩ => by
    rw [HODD.out] at he
    exact ⟨ao, cp, ys.length, he, hb⟩
  clear hR2 HODD HRd HTT hG hT bX hb1 cb em0 hc ht bwX
  go_upto_region 3 with (go_at_call 11; refine hR1.mono ?_; rintro e u1 ⟨ao, cp, ys, rfl, hO1, hys, hkl, hu1⟩)
  clear c0 c1 c2 zc hR1
  obtain ⟨⟨c0, c1, c2, zc⟩, -, -⟩ := KV.out u1 hu1
  have hR2 := HR2.out u1 hu1
  obtain ⟨I, eI⟩ : ∃ I, I = (rdAll S LB P t).2.1 := ⟨_, rfl⟩
  obtain ⟨E, eE⟩ : ∃ E, E = (rdAll S LB P t).2.2 := ⟨_, rfl⟩
  rw [← eI, ← eE]
  have HIE : Hid (I = (rdAll S LB P t).2.1 ∧ E = (rdAll S LB P t).2.2 ∧ ys.map nk = (rdAll S LB P t).1) := ⟨eI, eE, hys⟩
  have HO1 : Hid (OwnActs u1 X.heap.size (.slice ao ys.length cp) ys) := hO1
  clear eI eE hys HR2 hkl hO1
  go_upto_region 6 with (go_at_call 11; refine hR2.mono ?_; rintro e u2 ⟨ao2, cp2, n2, rfl, hu2⟩)
  clear c0 c1 c2 zc hR2
  have hbX2 := hu1.trans (hu2.mono hu1.size)
  obtain ⟨⟨c0, c1, c2, zc⟩, -, hbw⟩ := KV.out u2 hbX2
  by_cases hE : E = 0
  · have hE2 : (E != 0) = false := by simp [hE]
    obtain ⟨xs, h1, h2, h3, h4⟩ : ∃ xs, rdAll S LB P t = (xs, 0, 0) ∧ t = linesOf xs ∧ (∀ x ∈ xs, actFault S LB P x = 0) ∧ xs.length ≤ 3000 := by
      rcases HAll.out with h | h
      · exact absurd (HIE.out.2.1.symm.trans hE) h.1
      · exact h
    have hI : I = 0 := by rw [HIE.out.1, h1]
    have hys : ys.map nk = xs := by rw [HIE.out.2.2, h1]
    subst hI
    have hts : t = linesOf ys := by rw [h2, ← hys, linesOf_nk]
    have hfy : ∀ y ∈ ys, actFault S LB P y = 0 := fun y hy => by
      have := h3 (nk y) (by rw [← hys]; exact List.mem_map_of_mem hy)
      exact this
    have hyl : ys.length ≤ 3000 := by rw [← hys] at h4; simpa using h4
    have hS := HSh.out u2 ao ys.length cp ys hbX2 (HO1.out.below hu2).isActs.2 hyl hfy
    have KE : Hid (∀ U, Below u2.heap.size u2 U → Below w.heap.size w U) := fun U hU => hbw.trans (hU.mono hbw.size)
    rw [← hts] at hS
    clear HIE HAll HSh hE h1 h2 h3 h4 hys hts hfy hyl HO1 hu1 hu2 hbX2 KV hbw
    go_upto_region 9 with (go_at_call 9; refine hS.mono ?_; rintro e u3 ⟨rfl, hu3⟩)
    have hbe := KE.out u3 hu3
    clear hS KE c0 c1 c2 zc
    go_wp2
    go_ret
    exact ⟨rfl, hbe⟩
  · have hE2 : (E != 0) = true := by simp [hE]
    obtain ⟨h1, h2⟩ : (rdAll S LB P t).1 = [] ∧ 0 ≤ I := by
      rcases HAll.out with h | ⟨xs, h, -⟩
      · exact ⟨h.2.1, by rw [HIE.out.1]; exact h.2.2⟩
      · exact absurd (by rw [HIE.out.2.1, h]) hE
    have hys : ys = [] := by
      have := HIE.out.2.2
      rw [h1] at this
      exact List.map_eq_nil_iff.1 this
    subst hys
    clear HIE HAll HSh hE h1 HO1 hu1 hu2 hbX2 KV c0 c1 c2 zc
    go_wp2
    go_ret
    exact ⟨by simp, hbw⟩
end Go.Proofs.YtlaagfnoepcnlaaDoor.Ln
/- Closed facts of the row of LinesFixed, by the kernel. -/
namespace Go.Proofs.YtlaagfnoepcnlaaDoor.linesFixedProof
set_option maxRecDepth 100000
theorem c_inPlace : (Rows.linesFixedRow.inPlace == Tryd.pinned.checked.prog.inPlace 6) = true := by kernel_rfl
end Go.Proofs.YtlaagfnoepcnlaaDoor.linesFixedProof
/- Closed facts of the row of LinesFixed, by the kernel. -/
namespace Go.Proofs.YtlaagfnoepcnlaaDoor.linesFixedProof
set_option maxRecDepth 100000
theorem c_unf : (Rows.linesFixedRow.unfollowed == Tryd.pinned.checked.prog.unfollowed 6) = true := by kernel_rfl
end Go.Proofs.YtlaagfnoepcnlaaDoor.linesFixedProof
